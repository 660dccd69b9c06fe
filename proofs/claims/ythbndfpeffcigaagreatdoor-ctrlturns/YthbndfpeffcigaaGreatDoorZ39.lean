/- Part of the proof. -/
import Derived.Test.YthbndfpeffcigaaGreatDoorZ38
import Derived.Test.YthbndfpeffcigaaGreatDoorZ36
open Go.Proofs.Tryz (prog)
open Go.Proofs.ah.Al (PB)
namespace Go.Proofs.YthbndfpeffcigaaGreatDoor
open Go Go.Conc ak
variable {a:Array Value}
theorem vC:0<(PB prog false).depth:=of_decide_eq_true (by kernel_rfl)
abbrev Rk:Frame:={ fn:=108,tmps:=#[],todo:=[],defers:=[],mode:=.run,kind:=.normal }
theorem Ie(pv nv:Value):Frame.enter (PB prog false) 108 #[pv,nv] .normal=Rk.at ⟨#[pv,nv]++Array.replicate 46 undef,[]⟩ [.code ah.Al.lg]:=by kernel_rfl
theorem qX(h:a.size=2):∃ x y,a=#[x,y]:=by
 obtain⟨l⟩:=a
 match l,h with
 | [x,y],_=>exact⟨x,y,rfl⟩
theorem EP:((PB prog false).funcs[(108:Nat)]?).map (·.params.size)=some 2:=by kernel_rfl
theorem tT{P:Program}{fns:Fx}{f:FuncId}{n m:Nat}(hp:(P.funcs[f]?).map (·.params.size)=some m)(hj:fns.jf f=true)(h:wP P fns f n=true):n=m:=by
 unfold wP at h
 cases hf:P.funcs[f]? with
 |none=>rw[hf] at hp;cases hp
 |some fn =>
  rw[hf] at hp h
  simp only[Option.map_some,Option.some.injEq] at hp
  simp only[hj,Bool.not_true,Bool.false_or,beq_iff_eq] at h
  omega
theorem Ig(fns:Fx){n:Nat}(hj:fns.jf 108=true)(h:wP (PB prog false) fns 108 n=true):n=2:=tT EP hj h
def Rl(gh:World)(L:List ah.Pg)(v:Value)(u:World):Prop :=
 v=.tuple #[.slice (some ⟨gh.heap.size,0,none⟩) L.length L.length,.nilIface]/\gh.heap.size<=u.heap.size/\(∀ b,b<gh.heap.size->u.heap[b]?=gh.heap[b]?) /\
  ∃ cs,u.heap[gh.heap.size]?=some (.cells cs 226 (0,0))/\cs.size=5*L.length/\∀ i,i<L.length->ah.SAt cs i (ah.gP L i).p
theorem Ih{l:Nat}{cs:Array Value}{f:Nat->List Nat}(hs:cs.size=5*l)(h:∀ i,i<l->ah.SAt cs i (f i)):cs.all scalar=true:=by
 rw[Array.all_eq_true]
 intro j hj
 have hi:=h (j/5) (by omega)
 have e:j=5*(j/5)\/j=5*(j/5)+1\/j=5*(j/5)+2\/j=5*(j/5)+3\/j=5*(j/5)+4:=by omega
 have get:∀ {v:Value},cs[j]?=some v->cs[j]=v:=λh=>by rw[Array.getElem?_eq_getElem hj] at h;exact Option.some.inj h
 rcases e with e|e|e|e|e
 .rw[get (by rw[e];exact hi.c0)];rfl
 .rw[get (by rw[e];exact hi.c1)];rfl
 .rw[get (by rw[e];exact hi.c2)];rfl
 .rw[get (by rw[e];exact hi.c3)];rfl
 .rw[get (by rw[e];exact hi.c4)];rfl
theorem Rm{l:Nat}{cs cells:Array Value}{f:Nat->List Nat}(hs:cs.size=5*l)(h:∀ i,i<l->ah.SAt cs i (f i))(hs2:cells.size=5*l)(h2:∀ i,i<l->ah.SAt cells i (f i)):cells=cs:=by
 refine Array.ext (by omega) λj h3 h4=>?_
 have a:=h (j/5) (by omega)
 have b:=h2 (j/5) (by omega)
 have e:j=5*(j/5)\/j=5*(j/5)+1\/j=5*(j/5)+2\/j=5*(j/5)+3\/j=5*(j/5)+4:=by omega
 have key:cells[j]?=cs[j]?:=by
  rcases e with e|e|e|e|e
  .rw[e,a.c0,b.c0]
  .rw[e,a.c1,b.c1]
  .rw[e,a.c2,b.c2]
  .rw[e,a.c3,b.c3]
  .rw[e,a.c4,b.c4]
 rw[Array.getElem?_eq_getElem h3,Array.getElem?_eq_getElem h4] at key
 exact Option.some.inj key
section
variable {fns:Fx} {Z:Nat->Prop} {Fin:Goroutine->World->Prop} {E:Nat->Nat->Prop} {gh w:World}
theorem nL{a':Array Value}(ha:aV fns E a a')(hgs:∀ g,fns.gl g=true->E g g/\fns.pt g=true)(hw:WR (PB prog false) fns E Z gh w):Start (PB prog false) (fns.own (PB prog false)) Z (dom E) a gh :=
 ⟨ha.dom.own,hw.dom.own,λg hg=>⟨⟨rfl,_,(hgs g hg).1⟩,(hgs g hg).2⟩,λ_ _ x=>x.1⟩
theorem Ii(hz:zeros (PB prog false) (fns.own (PB prog false)))(hp:fU (PB prog false) (fns.own (PB prog false)))(hfo:fns.ok 108=true){pa:Option Addr}{pc:Nat}{n:Int}{L:List ah.Pg}{c:Frame}{cs k:List Frame}(hcs:cs=k++[aQ])(hst:Start (PB prog false) (fns.own (PB prog false)) Z (dom E) #[.slice pa L.length pc,.int .i64 n] gh)(h0:¬n<1)(h8:¬n>8)(hl:L.length<=4096)(hL:ah.SL gh pa L)
 (hR:Runs (PB prog false) Fin (G (Frame.enter (PB prog false) 108 #[.slice pa L.length pc,.int .i64 n] .normal) (c::cs)) gh) :
 ∃ v dW,Relation.TransGen (Bf (PB prog false)) (G (c.finish v) cs,dW) (G (Frame.enter (PB prog false) 108 #[.slice pa L.length pc,.int .i64 n] .normal) (c::cs),gh)/\Runs (PB prog false) Fin (G (c.finish v) cs) dW/\Rl gh L v dW:=by
 have hP:∀ t d,ah.SL (eP gh t d) pa L:=λt d=>by
  rcases hL with e|⟨b,off,e,hat⟩
  .exact .inl e
  .exact .inr ⟨b,off,e,λi hi=>⟨(hat i hi).1,⟨(hat i hi).2.all,(hat i hi).2.lies,(hat i hi).2.cap,(hat i hi).2.most⟩⟩⟩
 obtain⟨v,dW,t1,r1,u,hu,he⟩:=oJ (f:=108) (Q:=λv u=>Rl gh L v u) hz vC hp hcs hfo hst (λt d=>(ah.zM pa pc L n (eP gh t d) h0 h8 hl (hP t d)).mono (λe w' ⟨h1,h2⟩=>⟨_,h1,rfl,h2.eY.size,h2.eY.block,h2.row⟩)) hR
 exact⟨v,dW,t1,r1,hu.1,by rw[<-he];exact hu.2.1,by rw[<-he];exact hu.2.2.1,by rw[<-he];exact hu.2.2.2⟩
theorem Aj(hz:zeros (PB prog false) (fns.own (PB prog false)))(hp:fU (PB prog false) (fns.own (PB prog false)))(hfo:fns.ok 108=true){x:Value}{c:Frame}{cs k:List Frame}(hcs:cs=k++[aQ])(hst:Start (PB prog false) (fns.own (PB prog false)) Z (dom E) a gh)
 (hc:∀ t d,Calls (PB prog false) 108 a (eP gh t d) λe w'=>e=.returned x/\w'=eP gh t d)
 (hR:Runs (PB prog false) Fin (G (Frame.enter (PB prog false) 108 a .normal) (c::cs)) gh) :
 ∃ dW,Relation.TransGen (Bf (PB prog false)) (G (c.finish x) cs,dW) (G (Frame.enter (PB prog false) 108 a .normal) (c::cs),gh)/\Runs (PB prog false) Fin (G (c.finish x) cs) dW/\dW.heap=gh.heap:=by
 obtain⟨v,dW,t1,r1,u,⟨rfl,hu⟩,he⟩:=oJ (f:=108) (Q:=λv u=>v=x/\u.heap=gh.heap) hz vC hp hcs hfo hst (λt d=>(hc t d).mono (λe w' ⟨h1,h2⟩=>⟨_,h1,rfl,by rw[h2];rfl⟩)) hR
 exact⟨dW,t1,r1,by rw[<-he];exact hu⟩
end
end Go.Proofs.YthbndfpeffcigaaGreatDoor
namespace Go.Proofs.YthbndfpeffcigaaGreatDoor
open Go Go.Conc ak
open Go.ConcR (Payload)
section
variable {fns:Fx} {Z:Nat->Prop} {E:Nat->Nat->Prop} {gh w:World}
theorem ZV(hit:fns.it 42=true)(E:Nat->Nat->Prop)(e:Int):VR fns E (.tuple #[.slice none 0 0,.iface 42 (.int .i64 e)]) (.tuple #[.slice none 0 0,.iface 42 (.int .i64 e)]):=by
 refine bq.2 ⟨_,rfl,rfl,λi h _=>?_⟩
 simp only[List.size_toArray,List.length_cons,List.length_nil] at h
 match i,h with
 |0,_=>exact aO.2 ⟨none,rfl,.inl trivial⟩
 |1,_=>exact bf.2 ⟨_,rfl,aH rfl,hit⟩
theorem Mj(a:Option Addr)(p:List Nat)(cap:Nat)(w:World)(hA:bn p)(hL:aj.dz w a p)(hcap:p.length<=cap)(hm:p.length<=9223372036854775807) :
 Calls prog 158 #[.slice a p.length cap] w λe w'=>ah.zL w w' e p:=by
 have h:=ah.vT (zb:=true) a p cap w hA hL hcap hm
 rw[ah.Al.R6] at h
 exact h
theorem Mk(hw:WR (PB prog false) fns E Z gh w){ha ha':Option Addr}{p:List Nat}(EM:p=[]\/OS fns E ha ha')(h:aj.dz gh ha p):aj.dz w ha' p/\∀ ad,ha'=some ad->p≠[]->ad.spot=none/\(∃ a,E a ad.block):=by
 rcases h with rfl|⟨b,off,rfl,h⟩
 .exact⟨.inl rfl,λ_ _ h=>(h rfl).elim⟩
 .by_cases hp0:p=[]
  .subst hp0;exact⟨.inl rfl,λ_ _ h=>(h rfl).elim⟩
  obtain⟨yQ,rfl,CJ⟩:=dO.1 (EM.resolve_left hp0)
  have hsp:yQ.spot=none:=CJ.2.2.1.symm
  have hoff:yQ.off=off:=CJ.2.1.symm
  refine⟨.inr ⟨yQ.block,yQ.off,by cases yQ;simp only at hsp;subst hsp;rfl,λi hi=>?_⟩,λad e _=>?_⟩
  .obtain⟨v',h1,h2⟩:=hw.cell (a:=⟨b,off+i,none⟩) (a':=⟨yQ.block,yQ.off+i,none⟩) ⟨CJ.1,by rw[hoff],rfl,Nat.le_trans CJ.2.2.2 (Nat.le_add_right _ _)⟩ (h i hi)
   rw[dB] at h2
   rw[h1,h2]
  .obtain rfl:=Option.some.inj e
   exact⟨hsp,b,CJ.1⟩
def Ij(w:World)(pa:Option Addr)(l pc n m0:Nat)(F:Nat->Prop)(p:Nat->List Nat)(hc:Nat->Nat)(ha:Nat->Option Addr)(cs:List Frame):Lk :=
 { b2:=w.heap.size,b6:=w.heap.size+1,b7:=w.heap.size+2,bc:=w.heap.size+3,b8:=w.heap.size+4,pa:=pa,len:=l,pc:=pc,n:=n,m0:=m0,w0:=Mf w (.slice pa l pc) l,Fz:=λb=>F b\/b=w.heap.size\/b=w.heap.size+4,st:=λi=>stP (p i),kd:=λi=>yw (p i),lb:=λi=>yx (p i),sq:=λi=>Az (p i),cs:=cs,ha:=ha,hl:=λi=>(p i).length,hc:=hc }
theorem VB(w:World)(pa:Option Addr)(l pc n m0:Nat)(F:Nat->Prop)(p:Nat->List Nat)(hc:Nat->Nat)(ha:Nat->Option Addr)(cs:List Frame):(Ij w pa l pc n m0 F p hc ha cs).At w:=⟨rfl,rfl,rfl,rfl,rfl,rfl⟩
def Rn:Obj->Obj
 | .cells _ el _=>.cells #[] el (0,0)
 |o=>o
def J7:Obj->Bool
 | .loop _ | .deferred _=>true
 |_=>false
open Classical in
theorem Ik(E:Nat->Nat->Prop)(gh re:World)(hE:∀ a b b',E a b->E a b'->b=b'):∃ em:World,em.heap.size=gh.heap.size/\(∀ (a:Nat) (o:Obj),gh.heap[a]?=some o->J7 o=false->em.heap[a]?=some (Rn o))/\∀ (a b:Nat) (o o':Obj),E a b->gh.heap[a]?=some o->J7 o=true->re.heap[b]?=some o'->em.heap[a]?=some o':=by
 refine⟨{ gh with heap:=gh.heap.mapIdx λa o=>if h:J7 o=true/\∃ b,E a b then(re.heap[Classical.choose h.2]?).getD o else Rn o },by simp,λa o h1 h2=>?_,λa b o o' h1 h2 h3 h4=>?_⟩
 .simp only[Array.getElem?_mapIdx,h1,Option.map_some]
  rw[dif_neg (λh=>by rw[h2] at h;cases h.1)]
 .have hx:J7 o=true/\∃ b,E a b:=⟨h3,b,h1⟩
  simp only[Array.getElem?_mapIdx,h2,Option.map_some]
  rw[dif_pos hx,<-hE _ _ _ h1 (Classical.choose_spec hx.2),h4]
  rfl
theorem Il{y:Lk}{i:Nat}{av:Option Addr}(hw:WR (PB prog false) fns E Z gh y.w0)(MF:∀ a b,E a b->y.Fz b)(EM:SR fns E 0 (y.hc i) av (y.ha i))(hl:y.hl i=0)(opens:∀ w:World,Calls prog 158 #[.slice av 0 (y.hc i)] w (λe _=>∃ a d c,e=.returned (fv (y.kd i) (y.lb i) (y.sq i) a d c (y.st i)))):YK prog y i:=by
 obtain⟨em,hsz,hget,hlp⟩:=Ik E gh y.w0 (λa b b' h h'=>(hw.inj _ _ _ _ h h').1 rfl)
 have hAR:∀ a b,AR fns E a b->AR (g_ prog λ_=>0) (λa b=>E a b/\(fns.pn a\/∃ x,av=some x/\a=x.block)) a b:=λa b h=>⟨⟨h.1,.inl h.2.2.2.1⟩,h.2.1,h.2.2.1,.inr rfl,Nat.zero_le _⟩
 refine⟨λ_=>0,λa b=>E a b/\(fns.pn a\/∃ x,av=some x/\a=x.block),em,.slice av 0 (y.hc i),λa b x=>MF a b x.1,⟨λa hz=>?_,⟨λ_ _=>rfl,λh=>by cases h⟩,by rw[hsz];exact hw.jG,hw.lK,λa b x=>hw.glob a b x.1,λa b a' b' x y=>?_,λa b x=>?_⟩,?_,λw _=>opens w⟩
 .obtain⟨b,hb⟩:=hz
  rw[hsz]
  exact(hw.lt hb.1).1
 .refine⟨(hw.inj _ _ _ _ x.1 y.1).1,λe _=>?_⟩
  rcases x.2 with h|⟨z,hz,rfl⟩
  .exact(hw.inj _ _ _ _ x.1 y.1).2 e h
  .rcases y.2 with h'|⟨z',hz',rfl⟩
   .exact((hw.inj _ _ _ _ y.1 x.1).2 e.symm h').symm
   .rw[hz] at hz'
    rw[Option.some.inj hz']
 .rcases hw.cells a b x.1 with ⟨c,c',el,fr,fr',k1,k2,_,_,_⟩|⟨x1,x2,l,k1,k2,k3⟩|⟨hz0,o1,o2,k1,k2,k3⟩
  .exact .inl ⟨#[],c',el,(0,0),fr',hget _ _ k1 rfl,k2,⟨Nat.zero_le _,λhz=>(hz ⟨b,x⟩).elim,λi h=>by simp at h⟩,λhz=>(hz ⟨b,x⟩).elim,λ_ i h=>by simp at h⟩
  .exact .inr (.inl ⟨x1,x2,l,hget _ _ k1 rfl,k2,hAR _ _ k3⟩)
  .refine .inr (.inr ⟨(λh=>by cases h),o2,o2,hlp _ _ _ _ x.1 k1 ?_ k2,k2,?_⟩)
   .rcases k3.two with ⟨⟨r,rfl⟩,_⟩|⟨⟨r,rfl⟩,_⟩<;>rfl
   .rcases k3 with ⟨r,u,d,rfl,rfl,h3,_⟩|⟨d,h1,rfl,rfl⟩
    .exact .inl ⟨_,_,_,rfl,rfl,h3,λ_=>⟨rfl,rfl⟩,λh=>by cases h⟩
    .exact .inr ⟨d,h1,rfl,rfl⟩
 .rw[hl]
  refine aO.2 ⟨_,rfl,?_⟩
  rcases EM with EM|⟨e1,e2,e3⟩
  .refine .inl ?_
   cases av with
   |none=>rw[gU] at EM;rw[EM];trivial
   |some a=>obtain⟨b,e,h⟩:=dO.1 EM;rw[e];exact⟨⟨h.1,.inr ⟨a,rfl,rfl⟩⟩,h.2.1,h.2.2.1,Nat.zero_le _⟩
  .exact .inr ⟨rfl,e2,e3⟩
structure RPg(fns:Fx)(E:Nat->Nat->Prop)(w:World)(pa:Option Addr)(i:Nat)(av x:Option Addr)(p:List Nat)(c:Nat):Prop where
 cell:∃ b o,pa=some ⟨b,o,none⟩/\(∃ a,E a b)/\w.cell? ⟨b,o+i,none⟩=some (.slice x p.length c)
 os:SR fns E p.length c av x
 all:bn p
 lies:aj.dz w x p
 cap:p.length<=c
 most:p.length<=9223372036854775807
theorem VD{w:World}{F:Nat->Prop}{pa:Option Addr}{l pc n m0:Nat}{p:Nat->List Nat}{hc:Nat->Nat}{av ha:Nat->Option Addr}{cs:List Frame}(hw:WR (PB prog false) fns E Z gh w)(MF:∀ a b,E a b->F b)(hF:∀ b,F b->b<w.heap.size)(hl:l<=4096)(hp:∀ i,i<l->RPg fns E w pa i (av i) (ha i) (p i) (hc i)):(Ij w pa l pc n m0 F p hc ha cs).Ok prog:=by
 have hg:prog.globals.size<w.heap.size:=hw.lK
 have k0:=Q7 w (.slice pa l pc) l
 have WM:∀ x:Addr,x.block<w.heap.size->(Mf w (.slice pa l pc) l).cell? x=w.cell? x:=λx hx=>by unfold World.cell?;rw[k0.old _ hx]
 have ks:=k0.size
 refine⟨k0.h2,k0.h8,.inr (.inl rfl),.inr (.inr rfl),λb hb=>?_,⟨?_,?_,?_⟩,?_,λi hi=>?_,λi hi=>?_,hl⟩
 .show b<(Mf w (.slice pa l pc) l).heap.size/\b≠w.heap.size+1/\b≠w.heap.size+2/\b≠w.heap.size+3
  rcases hb with hb|hb|hb
  .have:=hF b hb;omega
  .omega
  .omega
 .show w.heap.size+1<(Mf w (.slice pa l pc) l).heap.size
  omega
 .show w.heap.size+2<(Mf w (.slice pa l pc) l).heap.size
  omega
 .show w.heap.size+3<(Mf w (.slice pa l pc) l).heap.size
  omega
 .show prog.globals.size<(Mf w (.slice pa l pc) l).heap.size
  omega
 .obtain⟨b,o,e,hb,hcell⟩:=(hp i hi).cell
  obtain⟨a,hb⟩:=hb
  exact⟨b,o,e,.inl (MF a b hb),(WM _ (hF b (MF a b hb))).trans hcell⟩
 .have hpi:=hp i hi
  have hopen:∀ (z:Option Addr) (wx:World),aj.dz wx z (p i)->Calls prog 158 #[.slice z (p i).length (hc i)] wx (λe _=>∃ a d c,e=.returned (fv (yw (p i)) (yx (p i)) (Az (p i)) a d c (stP (p i)))):=λz wx hz=>(Mj z (p i) (hc i) wx hpi.all hz hpi.cap hpi.most).mono λe w' ⟨a,d,c,h,_⟩=>⟨a,d,c,h⟩
  by_cases h0:p i=[]
  .have hwr:WR (PB prog false) fns E Z gh (Mf w (.slice pa l pc) l):=hw.ext (λ_ _ _=>rfl) (λa b x=>k0.old b (hw.lt x).2) (Nat.le_refl _) (by omega)
   refine Il (y:=Ij w pa l pc n m0 F p hc ha cs) (av:=av i) hwr (λa b x=>.inl (MF a b x)) (by have:=hpi.os;rw[h0] at this;exact this) (by show (p i).length=0;rw[h0];rfl) (λwx=>?_)
   have:=hopen (av i) wx (.inl h0)
   rw[show (p i).length=0 by rw[h0];rfl] at this
   exact this
  .obtain⟨b,o,e,hby⟩:=hpi.lies.resolve_left h0
   have hpos:0<(p i).length:=List.length_pos_iff.2 h0
   have hEb:F b:=by
    have hos:=hpi.os.resolve_right (λx=>by omega)
    rw[e] at hos
    cases hav:av i with
    |none=>rw[hav] at hos;exact hos.elim
    |some a=>rw[hav] at hos;exact MF _ _ hos.1
   have hc0:=hby 0 hpos
   obtain⟨cc,el,fr,hcc⟩:∃ cc el fr,w.heap[b]?=some (.cells cc el fr):=by
    unfold World.cell? at hc0
    cases hh:w.heap[b]? with
    |none=>simp[hh] at hc0
    |some ob =>
     cases ob with
     |cells cc el fr=>exact⟨cc,el,fr,rfl⟩
     |_=>simp[hh] at hc0
   have hcl:∀ j,j<(p i).length->cc[o+j]?=some (.int .u8 (((p i)[j]?.getD 0:Nat):Int)):=λj hj=>by
    have:=hby j hj
    simpa [World.cell?,hcc] using this
   have hlast:=hcl ((p i).length-1) (by omega)
   have hsz:=(Array.getElem?_eq_some_iff.1 hlast).1
   refine Qr (y:=Ij w pa l pc n m0 F p hc ha cs) (ad:=⟨b,o,none⟩) (cc:=cc) (el:=el) (fr:=fr) e (.inl hEb) (by show prog.globals.size<(Mf w (.slice pa l pc) l).heap.size;omega) ((k0.old b (hF b hEb)).trans hcc) (by show o+(p i).length<=cc.size;omega) (λj hj=>⟨_,hcl j hj⟩) (λwx hx=>?_)
   refine hopen (ha i) wx (.inr ⟨b,o,e,λj hj=>?_⟩)
   exact(hx j hj).trans ((WM ⟨b,o+j,none⟩ (hF b hEb)).trans (hby j hj))
end

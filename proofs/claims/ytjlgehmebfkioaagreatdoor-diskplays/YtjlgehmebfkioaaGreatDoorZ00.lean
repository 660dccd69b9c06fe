/- Part of the proof. -/
import Derived.Laws.CopyOwn
set_option linter.unusedVariables false
open Bool renaming and_eq_true->bu
open Classical renaming byContradiction->cD
open Int renaming toNat_natCast->cm
open List renaming getElem?_eq_getElem->az,mem_cons->gv,replicate->aq,length_cons->gS,length_append->cJ,getElem?_append_right->eR,length_take->eh,getElem?_replicate->j9,getElem?_append_left->jb,getElem?_take->eW,getElem?_drop->lL,ext_getElem?->mr,append_nil->ie
open Nat renaming le_refl->al,mul_comm->fL,add_mul->ee,one_mul->ff,succ_mul->e_,mul_le_mul_right->cN,mod_lt->ly,div_add_mod->im
open Or renaming inl->bh,inr->be
namespace Go.Proofs.au
def upd{α:Type}(f:Nat->α)(k:Nat)(v:α):Nat->α:=λi=>if i=k then v else f i
theorem upd_same{α:Type}(f:Nat->α)(k:Nat)(v:α):upd f k v k=v:=if_pos rfl
theorem upd_ne{α:Type}(f:Nat->α)(k i:Nat)(v:α)(h:i≠k):upd f k v i=f i:=if_neg h
structure Bk where
 pa:Nat->Int
 lb:Nat->Int
def fresh:Bk:=⟨λ_=>-1,λ_=>-1⟩
structure Inv(L P:Nat)(s:Bk):Prop where
 a:∀ l,l<L->s.pa l=-1\/∃ p:Nat,p<P/\s.pa l=(p:Int)/\s.lb p=(l:Int)
 o:∀ p,p<P->s.lb p=-1\/∃ l:Nat,l<L/\s.lb p=(l:Int)/\s.pa l=(p:Int)
theorem Aa(L P:Nat):Inv L P fresh:=⟨λ_ _=>bh rfl,λ_ _=>bh rfl⟩
def fG(s:Bk)(l:Nat):Bk:=⟨upd s.pa l (-1),if s.pa l=-1 then s.lb else upd s.lb (s.pa l).toNat (-1)⟩
theorem ow{L P:Nat}{s:Bk}(h:Inv L P s){l:Nat}(hl:l<L):Inv L P (fG s l):=by
 unfold fG
 rcases h.a l hl with e|⟨p,hp,e1,e2⟩
 .rw[if_pos e]
  refine⟨λk hk=>?_,λq hq=>?_⟩
  .by_cases hkl:k=l
   .subst hkl;left;exact upd_same _ _ _
   .rcases h.a k hk with e3|⟨p,h1,h2,h3⟩
    .left;show upd s.pa l (-1) k=-1;rw[upd_ne _ _ _ _ hkl];exact e3
    .right;exact⟨p,h1,by show upd s.pa l (-1) k=_;rw[upd_ne _ _ _ _ hkl];exact h2,h3⟩
  .rcases h.o q hq with e3|⟨k,h1,h2,h3⟩
   .exact bh e3
   .have hkl:k≠l:=by rintro rfl;omega
    right;exact⟨k,h1,h2,by show upd s.pa l (-1) k=_;rw[upd_ne _ _ _ _ hkl];exact h3⟩
 .rw[if_neg (by omega),e1,cm]
  refine⟨λk hk=>?_,λq hq=>?_⟩
  .by_cases hkl:k=l
   .subst hkl;left;exact upd_same _ _ _
   .rcases h.a k hk with e3|⟨p',h1,h2,h3⟩
    .left;show upd s.pa l (-1) k=-1;rw[upd_ne _ _ _ _ hkl];exact e3
    .have hpp:p'≠p:=by rintro rfl;omega
     right;exact⟨p',h1,by show upd s.pa l (-1) k=_;rw[upd_ne _ _ _ _ hkl];exact h2,by show upd s.lb p (-1) p'=_;rw[upd_ne _ _ _ _ hpp];exact h3⟩
  .by_cases Xm:q=p
   .subst Xm;left;exact upd_same _ _ _
   .rcases h.o q hq with e3|⟨k,h1,h2,h3⟩
    .left;show upd s.lb p (-1) q=-1;rw[upd_ne _ _ _ _ Xm];exact e3
    .have hkl:k≠l:=by rintro rfl;omega
     right;exact⟨k,h1,by show upd s.lb p (-1) q=_;rw[upd_ne _ _ _ _ Xm];exact h2,by show upd s.pa l (-1) k=_;rw[upd_ne _ _ _ _ hkl];exact h3⟩
theorem Eh(s:Bk)(l:Nat):(fG s l).pa l=-1:=upd_same _ _ _
theorem Jw{L P:Nat}{s:Bk}(h:Inv L P s){l p:Nat}(hl:l<L)(hp:p<P)(h1:s.pa l=-1)(h2:s.lb p=-1):Inv L P ⟨upd s.pa l (p:Int),upd s.lb p (l:Int)⟩:=by
 refine⟨λk hk=>?_,λq hq=>?_⟩
 .by_cases hkl:k=l
  .subst hkl;right;exact⟨p,hp,upd_same _ _ _,upd_same _ _ _⟩
  .rcases h.a k hk with e3|⟨p',g1,g2,g3⟩
   .left;show upd s.pa l (p:Int) k=-1;rw[upd_ne _ _ _ _ hkl];exact e3
   .have hpp:p'≠p:=by rintro rfl;omega
    right;exact⟨p',g1,by show upd s.pa l (p:Int) k=_;rw[upd_ne _ _ _ _ hkl];exact g2,by show upd s.lb p (l:Int) p'=_;rw[upd_ne _ _ _ _ hpp];exact g3⟩
 .by_cases Xm:q=p
  .subst Xm;right;exact⟨l,hl,upd_same _ _ _,upd_same _ _ _⟩
  .rcases h.o q hq with e3|⟨k,g1,g2,g3⟩
   .left;show upd s.lb p (l:Int) q=-1;rw[upd_ne _ _ _ _ Xm];exact e3
   .have hkl:k≠l:=by rintro rfl;omega
    right;exact⟨k,g1,by show upd s.lb p (l:Int) q=_;rw[upd_ne _ _ _ _ Xm];exact g2,by show upd s.pa l (p:Int) k=_;rw[upd_ne _ _ _ _ hkl];exact g3⟩
theorem Ei{L P:Nat}{s:Bk}(h:Inv L P s){l p:Nat}(hl:l<L)(hp:p<P)(hf:s.lb p=-1\/s.lb p=(l:Int)):(fG s l).lb p=-1:=by
 unfold fG
 rcases hf with e|e
 .show (if s.pa l=-1 then s.lb else upd s.lb (s.pa l).toNat (-1)) p=-1
  split
  .exact e
  .unfold upd;split
   .rfl
   .exact e
 .rcases h.o p hp with e2|⟨k,h1,h2,h3⟩
  .omega
  .obtain rfl:k=l:=by omega
   show (if s.pa k=-1 then s.lb else upd s.lb (s.pa k).toNat (-1)) p=-1
   rw[if_neg (by omega),h3,cm,upd_same]
def sj(n:Nat)(x:Int):Bool:=decide (0<=x/\x<(n:Int))
def jS(s:Bk)(l p:Nat):Bk:=⟨upd (fG s l).pa l (p:Int),upd (fG s l).lb p (l:Int)⟩
def pE(L P:Nat)(s:Bk)(x y:Int):Nat × Bk :=
 if sj L x=false\/sj P y=false then(1,s) else if s.lb y.toNat≠-1/\s.lb y.toNat≠x then(10,s) else(0,jS s x.toNat y.toNat)
theorem Bz{n:Nat}{x:Int}(h:sj n x=true):∃ k:Nat,x=(k:Int)/\k<n:=by
 have h:=of_decide_eq_true h
 exact⟨x.toNat,by omega,by omega⟩
theorem sw{n k:Nat}(h:k<n):sj n (k:Int)=true:=decide_eq_true ⟨by omega,by omega⟩
theorem GY(L P:Nat)(s:Bk)(x y:Int) :
 ((sj L x=false\/sj P y=false)/\pE L P s x y=(1,s)) \/
 ∃ l p:Nat,x=(l:Int)/\y=(p:Int)/\l<L/\p<P/\((s.lb p≠-1/\s.lb p≠(l:Int)/\pE L P s x y=(10,s))\/((s.lb p=-1\/s.lb p=(l:Int))/\pE L P s x y=(0,jS s l p))):=by
 unfold pE
 by_cases h1:sj L x=false\/sj P y=false
 .exact bh ⟨h1,if_pos h1⟩
 .right
  rw[if_neg h1]
  obtain⟨l,rfl,hl⟩:=Bz (n:=L) (x:=x) (by cases h:sj L x with|true=>rfl|false=>exact absurd (bh h) h1)
  obtain⟨p,rfl,hp⟩:=Bz (n:=P) (x:=y) (by cases h:sj P y with|true=>rfl|false=>exact absurd (be h) h1)
  rw[cm,cm]
  refine⟨l,p,rfl,rfl,hl,hp,?_⟩
  by_cases h2:s.lb p≠-1/\s.lb p≠(l:Int)
  .exact bh ⟨h2.1,h2.2,if_pos h2⟩
  .exact be ⟨by omega,if_neg h2⟩
theorem Ej{L P:Nat}{s:Bk}(h:Inv L P s){l p:Nat}(hl:l<L)(hp:p<P)(hf:s.lb p=-1\/s.lb p=(l:Int)):Inv L P (jS s l p) :=
 Jw (ow h hl) hl hp (Eh s l) (Ei h hl hp hf)
theorem Jy(s:Bk)(l p:Nat):(jS s l p).pa=upd s.pa l (p:Int):=by
 funext i
 show upd (upd s.pa l (-1)) l (p:Int) i=upd s.pa l (p:Int) i
 unfold upd
 split<;>rfl
theorem Ab{L P:Nat}{s:Bk}(h:Inv L P s){l p q:Nat}(hl:l<L)(hq:s.pa l=(q:Int))(hn:q≠p):(jS s l p).lb q=-1:=by
 show upd (fG s l).lb p (l:Int) q=-1
 rw[upd_ne _ _ _ _ hn]
 show (if s.pa l=-1 then s.lb else upd s.lb (s.pa l).toNat (-1)) q=-1
 rw[if_neg (by omega),hq,cm,upd_same]
def eZ(f:Nat->Int):Nat->Nat
 |0=>0
 |k+1=>eZ f k+if f k=-1 then 0 else 1
theorem BF(f:Nat->Int):∀ k,eZ f k<=k
 |0=>al _
 |k+1=>by have:=BF f k;unfold eZ;split<;>omega
def GZ(x:Nat):Nat:=if x%2=1 then(x/2) ^^^ 3988292384 else x/2
def Sv:Nat->Nat->Nat
 |0,x=>x
 |n+1,x=>GZ (Sv n x)
def N7(s b:Nat):Nat:=Sv 8 (s ^^^ b)
def BG(s:Nat)(l:List Nat):Nat:=l.foldl N7 s
def Ac(l:List Nat):Nat:=4294967295 ^^^ BG 4294967295 l
theorem Sy{x:Nat}(h:x<4294967296):GZ x<4294967296:=by
 unfold GZ
 split
 .exact Nat.xor_lt_two_pow (n:=32) (by omega) (by decide)
 .omega
theorem BH{x:Nat}(h:x<4294967296):∀ n,Sv n x<4294967296
 |0=>h
 |n+1=>Sy (BH h n)
theorem N8{a b:Nat}(ha:a<4294967296)(hb:b<4294967296):a ^^^ b<4294967296:=Nat.xor_lt_two_pow (n:=32) ha hb
theorem Sz{s b:Nat}(h:s<4294967296)(hb:b<4294967296):N7 s b<4294967296:=BH (N8 h hb) 8
def aY(l:List Nat):Prop:=∀ x∈l,x<256
theorem Jz{s:Nat}(hs:s<4294967296):∀ l:List Nat,aY l->BG s l<4294967296:=by
 intro l
 induction l generalizing s with
 |nil=>intro _;exact hs
 |cons b r ih=>intro h;exact ih (Sz hs (by have:=h b (by simp);omega)) (λx hx=>h x (by simp[hx]))
theorem Ld(s:Nat)(l:List Nat)(b:Nat):BG s (l++[b])=N7 (BG s l) b:=by simp[BG,List.foldl_append]
theorem aY.take{l:List Nat}(h:aY l)(k:Nat):aY (l.take k):=λx hx=>h x (List.mem_of_mem_take hx)
theorem aY.at{l:List Nat}(h:aY l)(k:Nat):l[k]?.getD 0<256:=by
 by_cases hk:k<l.length
 .rw[az hk];exact h _ (List.getElem_mem _)
 .rw[List.getElem?_eq_none (by omega)];decide
theorem wu(l:List Nat)(k:Nat)(h:k<l.length):l.take (k+1)=l.take k++[l[k]?.getD 0]:=by
 rw[List.take_succ_eq_append_getElem h,az h];rfl
theorem N9{l:List Nat}(h:aY l):Ac l<4294967296:=N8 (by decide) (Jz (by decide) l h)
def low:Nat->Nat->List Nat
 |0,_=>[]
 |k+1,x=>x%256::low k (x/256)
def num:List Nat->Nat
 | []=>0
 |b::r=>b+256*num r
theorem dz:∀ k x,(low k x).length=k
 |0,_=>rfl
 |k+1,x=>by simp[low,dz k]
theorem qH:∀ k x,aY (low k x)
 |0,_=>λ_ h=>by simp[low] at h
 |k+1,x=>λy h=>by
  simp only[low,gv] at h
  rcases h with rfl|h
  .omega
  .exact qH k _ y h
theorem El:∀ k,low k 0=aq k 0
 |0=>rfl
 |k+1=>by rw[low,El k,List.replicate_succ]
theorem N_(k:Nat):2 ^ (8*(k+1))=256*2 ^ (8*k):=by rw[show 8*(k+1)=8+8*k by omega,Nat.pow_add]
theorem qc:∀ l,aY l->num l<2 ^ (8*l.length)
 | [],_=>by decide
 |b::r,h=>by
  have h1:=h b (by simp)
  have h2:=qc r (λx hx=>h x (by simp[hx]))
  rw[gS,N_]
  show b+256*num r<_
  omega
theorem vK:∀ k x,x<2 ^ (8*k)->num (low k x)=x
 |0,x,h=>by show 0=x;simp at h;omega
 |k+1,x,h=>by
  rw[N_] at h
  have e:=vK k (x/256) (by omega)
  show x%256+256*num (low k (x/256))=x
  rw[e];omega
theorem Em:∀ l b,num (l++[b])=num l+b*2 ^ (8*l.length)
 | [],b=>by simp[num]
 |a::r,b=>by
  show a+256*num (r++[b])=a+256*num r+_
  rw[Em r b,gS,N_,Nat.mul_left_comm]
  omega
theorem Xn(l:List Nat)(b:Nat)(h:aY l):num l ||| b*2 ^ (8*l.length)=num (l++[b]):=by
 rw[Em,Nat.or_comm,fL b,<-Nat.two_pow_add_eq_or_of_lt (qc l h)]
 omega
theorem En:∀ k x,low (k+1) x=low k x++[x/2 ^ (8*k)%256]
 |0,x=>by simp[low]
 |k+1,x=>by
  show x%256::low (k+1) (x/256)=x%256::(low k (x/256)++_)
  rw[En k,Nat.div_div_eq_div_mul,N_]
def mZ(kind fZ seq len:Nat):List Nat:=[165,kind]++(low 4 fZ++(low 8 seq++low 2 len))
def uX(n:Nat)(data:List Nat):List Nat:=data++(aq (n-21-data.length) 0++[90])
def fF(n sum kind fZ seq:Nat)(data:List Nat):List Nat:=mZ kind fZ seq data.length++(low 4 sum++uX n data)
def aR(n kind fZ seq:Nat)(data:List Nat):List Nat:=fF n (Ac (fF n 0 kind fZ seq data)) kind fZ seq data
structure DY(n kind fZ seq len:Nat):Prop where
 n0:24<=n
 n1:n<=4096
 k0:1<=kind
 k1:kind<=3
 l1:fZ<=4294967295
 s1:seq<=4611686018427387904
 d1:len+21<=n
theorem lD(kind fZ seq len:Nat):(mZ kind fZ seq len).length=16:=by simp[mZ,dz]
theorem Le(n:Nat)(data:List Nat)(h:data.length+21<=n):(uX n data).length=n-20:=by simp[uX];omega
theorem Lf(n sum kind fZ seq:Nat)(data:List Nat)(h:data.length+21<=n):(fF n sum kind fZ seq data).length=n:=by
 unfold fF
 rw[cJ,cJ,lD,dz,Le n data h]
 omega
theorem gH(n kind fZ seq:Nat)(data:List Nat)(h:data.length+21<=n):(aR n kind fZ seq data).length=n:=Lf n _ kind fZ seq data h
theorem aY.app{a b:List Nat}(ha:aY a)(hb:aY b):aY (a++b):=λx hx=>by
 rcases List.mem_append.1 hx with h|h
 .exact ha x h
 .exact hb x h
theorem Ae(n sum kind fZ seq:Nat)(data:List Nat)(hk:kind<256)(hd:aY data):aY (fF n sum kind fZ seq data):=by
 unfold fF mZ uX
 refine aY.app (aY.app (λx hx=>?_) (aY.app (qH _ _) (aY.app (qH _ _) (qH _ _)))) (aY.app (qH _ _) (aY.app hd (aY.app (λx hx=>?_) (λx hx=>?_))))
 .simp at hx;omega
 .simp at hx;omega
 .simp at hx;omega
theorem jA(n kind fZ seq:Nat)(data:List Nat)(hk:kind<256)(hd:aY data):aY (aR n kind fZ seq data):=Ae n _ kind fZ seq data hk hd
def dV(p:List Nat)(a k:Nat):List Nat:=(p.drop a).take k
def aQ(p:List Nat):Nat:=p[1]?.getD 0
def bS(p:List Nat):Nat:=num (dV p 2 4)
def bO(p:List Nat):Nat:=num (dV p 6 8)
def aW(p:List Nat):Nat:=num (dV p 14 2)
def aT(p:List Nat):List Nat:=dV p 20 (aW p)
theorem abu(x:Nat):low 2 x=[x%256,x/256%256]:=rfl
theorem abv(x:Nat):low 4 x=[x%256,x/256%256,x/256/256%256,x/256/256/256%256]:=rfl
theorem abw(x:Nat):low 8 x=[x%256,x/256%256,x/256/256%256,x/256/256/256%256,x/256/256/256/256%256,x/256/256/256/256/256%256,x/256/256/256/256/256/256%256,x/256/256/256/256/256/256/256%256]:=rfl
theorem Lg(n sum kind fZ seq:Nat)(data:List Nat):aQ (fF n sum kind fZ seq data)=kind:=by
 simp[aQ,fF,mZ]
theorem Lh(n sum kind fZ seq:Nat)(data:List Nat):dV (fF n sum kind fZ seq data) 2 4=low 4 fZ:=by
 simp[dV,fF,mZ,dz]
theorem Li(n sum kind fZ seq:Nat)(data:List Nat):dV (fF n sum kind fZ seq data) 6 8=low 8 seq:=by
 unfold dV fF mZ
 rw[abv,abw,abu]
 rfl
theorem G5(n sum kind fZ seq:Nat)(data:List Nat):dV (fF n sum kind fZ seq data) 14 2=low 2 data.length:=by
 unfold dV fF mZ
 rw[abv,abw,abu]
 rfl
theorem Lj(n sum kind fZ seq:Nat)(data:List Nat):(fF n sum kind fZ seq data).drop 20=uX n data:=by
 unfold fF
 rw[<-List.append_assoc,List.drop_append_of_le_length (by rw[cJ,lD,dz];omega),List.drop_of_length_le (by rw[cJ,lD,dz];omega),List.nil_append]
theorem nD{n kind fZ seq:Nat}{data:List Nat}(h:DY n kind fZ seq data.length) :
 aQ (aR n kind fZ seq data)=kind/\bS (aR n kind fZ seq data)=fZ/\bO (aR n kind fZ seq data)=seq/\aW (aR n kind fZ seq data)=data.length/\aT (aR n kind fZ seq data)=data:=by
 have e4:aW (aR n kind fZ seq data)=data.length:=by
  unfold aW aR
  rw[G5]
  exact vK 2 _ (by have:=h.d1;have:=h.n1;show _<65536;omega)
 refine⟨Lg ..,?_,?_,e4,?_⟩
 .unfold bS aR
  rw[Lh]
  exact vK 4 _ (by have:=h.l1;show _<4294967296;omega)
 .unfold bO aR
  rw[Li]
  exact vK 8 _ (by have:=h.s1;show _<18446744073709551616;omega)
 .unfold aT
  rw[e4]
  unfold dV aR
  rw[Lj]
  unfold uX
  rw[List.take_append_of_le_length (by omega),List.take_of_length_le (by omega)]
def f_(p:List Nat):Prop:=DY p.length (aQ p) (bS p) (bO p) (aW p)/\aR p.length (aQ p) (bS p) (bO p) (aT p)=p
theorem valid_pack{n kind fZ seq:Nat}{data:List Nat}(h:DY n kind fZ seq data.length):f_ (aR n kind fZ seq data):=by
 obtain⟨e1,e2,e3,e4,e5⟩:=nD h
 unfold f_
 rw[e1,e2,e3,e4,e5,gH n kind fZ seq data h.d1]
 exact⟨h,rfl⟩
def dI(p:List Nat):Prop:=0<p.length/\∀ i,i<p.length->p[i]?.getD 0=255
theorem wE(n kind fZ seq:Nat)(data:List Nat):(aR n kind fZ seq data)[0]?.getD 0=165:=by simp[aR,fF,mZ]
theorem Ll{n kind fZ seq:Nat}{data:List Nat}(h:data.length+21<=n):(aR n kind fZ seq data)[n-1]?.getD 0=90:=by
 have e:aR n kind fZ seq data=(mZ kind fZ seq data.length++(low 4 (Ac (fF n 0 kind fZ seq data))++(data++aq (n-21-data.length) 0)))++[90]:=by
  simp[aR,fF,uX]
 have hl:(mZ kind fZ seq data.length++(low 4 (Ac (fF n 0 kind fZ seq data))++(data++aq (n-21-data.length) 0))).length=n-1:=by
  simp[lD,dz];omega
 rw[e,eR (by omega),hl]
 simp
theorem nG{p:List Nat}(h:f_ p):p[0]?.getD 0=165:=by
 have:=wE p.length (aQ p) (bS p) (bO p) (aT p)
 rwa [h.2] at this
theorem gJ{p:List Nat}(h:aW p+21<=p.length):(aT p).length=aW p:=by
 unfold aT dV
 rw[eh,List.length_drop]
 omega
theorem G6{p:List Nat}(h:f_ p):p[p.length-1]?.getD 0=90:=by
 have:=Ll (n:=p.length) (kind:=aQ p) (fZ:=bS p) (seq:=bO p) (data:=aT p) (by rw[gJ h.1.d1];exact h.1.d1)
 rwa [h.2] at this
theorem G7{p:List Nat}(h:p[0]?.getD 0=165):¬dI p:=λe=>by
 have:=e.2 0 e.1
 rw[h] at this
 cases this
def wG(p:List Nat)(k:Nat):List Nat:=p.take k++aq (p.length-k) 255
theorem Lm(p:List Nat)(k:Nat)(h:k<=p.length):(wG p k).length=p.length:=by simp[wG];omega
theorem Eo{p:List Nat}{k:Nat}(h1:k<p.length):¬f_ (wG p k):=by
 intro h
 have e:=G6 h
 rw[Lm p k (by omega)] at e
 unfold wG at e
 rw[eR (by rw[eh];omega),j9,if_pos (by rw[eh];omega)] at e
 cases e
def iR(p:List Nat):Bool:=p.length != 0&&p.all (·==255)
theorem kQ(p:List Nat):iR p=true↔dI p:=by
 unfold iR dI
 simp only[bu,bne_iff_ne,ne_eq,List.all_eq_true,beq_iff_eq]
 constructor
 .rintro ⟨h1,h2⟩
  refine⟨by omega,λi hi=>?_⟩
  rw[az hi]
  exact h2 _ (List.getElem_mem hi)
 .rintro ⟨h1,h2⟩
  refine⟨by omega,λx hx=>?_⟩
  obtain⟨i,hi,rfl⟩:=List.mem_iff_getElem.1 hx
  have:=h2 i hi
  rw[az hi] at this
  exact this
def qd(p:List Nat):Bool:=decide (24<=p.length)&&decide (p.length<=4096)&&decide (1<=aQ p)&&decide (aQ p<=3)&&decide (bS p<=4294967295)&&decide (bO p<=4611686018427387904)&&decide (aW p+21<=p.length)&&decide (aR p.length (aQ p) (bS p) (bO p) (aT p)=p)
theorem mF(p:List Nat):qd p=true↔f_ p:=by
 unfold qd f_
 simp only[bu,decide_eq_true_eq]
 constructor
 .rintro ⟨⟨⟨⟨⟨⟨⟨a,b⟩,c⟩,d⟩,e⟩,f⟩,g⟩,h⟩
  exact⟨⟨a,b,c,d,e,f,g⟩,h⟩
 .rintro ⟨⟨a,b,c,d,e,f,g⟩,h⟩
  exact⟨⟨⟨⟨⟨⟨⟨a,b⟩,c⟩,d⟩,e⟩,f⟩,g⟩,h⟩
def stP(p:List Nat):Nat:=if iR p then 1 else if qd p then 2 else 3
def qI(p:List Nat):Bool:=!iR p&&qd p
def zG(p:List Nat):Nat:=if qI p then aQ p else 0
def zH(p:List Nat):Nat:=if qI p then bS p else 0
def BJ(p:List Nat):Nat:=if qI p then bO p else 0
theorem Ep{p:List Nat}(h:dI p):stP p=1/\zG p=0/\zH p=0/\BJ p=0:=by
 have e:=(kQ p).2 h
 simp[stP,zG,zH,BJ,qI,e]
theorem G8{p:List Nat}(h:¬dI p)(hv:f_ p):stP p=2/\zG p=aQ p/\zH p=bS p/\BJ p=bO p:=by
 have e:iR p=false:=by cases hb:iR p with|false=>rfl|true=>exact absurd ((kQ p).1 hb) h
 have v:=(mF p).2 hv
 simp[stP,zG,zH,BJ,qI,e,v]
theorem Er{p:List Nat}(h:¬dI p)(hv:¬f_ p):stP p=3/\zG p=0/\zH p=0/\BJ p=0:=by
 have e:iR p=false:=by cases hb:iR p with|false=>rfl|true=>exact absurd ((kQ p).1 hb) h
 have v:qd p=false:=by cases hb:qd p with|false=>rfl|true=>exact absurd ((mF p).1 hb) hv
 simp[stP,zG,zH,BJ,qI,e,v]
def pI(p:List Nat):Prop:=f_ p/\(aQ p=1\/aQ p=2)
theorem Af(p:List Nat):qI p=true↔f_ p:=by
 unfold qI
 constructor
 .intro h
  simp only[bu] at h
  exact(mF p).1 h.2
 .intro h
  have h1:iR p=false:=by
   cases he:iR p with
   |false=>rfl
   |true=>exact(G7 (nG h) ((kQ p).1 he)).elim
  rw[h1,(mF p).2 h]
  rfl
structure R4(M Y:Nat)(pg:Nat->List Nat):Prop where
 len:∀ p,p<M->(pg p).length=Y
 all:∀ p,p<M->aY (pg p)
structure DI(M L Y:Nat)(pg:Nat->List Nat)(pa:Nat->Int)(seq:Nat):Prop where
 pz:R4 M Y pg
 none:∀ l,l<L->pa l=-1->∀ p,p<M->pI (pg p)->bS (pg p)≠l
 some:∀ l,l<L->∀ q:Nat,pa l=(q:Int)->q<M/\pI (pg q)/\bS (pg q)=l/\∀ p,p<M->p≠q->pI (pg p)->bS (pg p)=l->bO (pg p)<bO (pg q)
 ok:∀ p,p<M->pI (pg p)->bS (pg p)<L/\bO (pg p)<seq/\(aQ (pg p)=1->aW (pg p)+21=Y)/\(aQ (pg p)=2->aW (pg p)=0)
 SA:∀ l,l<L->pa l=-1\/∃ q:Nat,pa l=(q:Int)
def gX(Y:Nat)(pg:Nat->List Nat)(pa:Nat->Int)(l:Nat):List Nat:=if pa l=-1 then aq (Y-21) 0 else if aQ (pg (pa l).toNat)=1 then aT (pg (pa l).toNat) else aq (Y-21) 0
theorem DI.start{M L Y:Nat}{pg:Nat->List Nat}(hp:R4 M Y pg)(h:∀ p,p<M->¬pI (pg p)):DI M L Y pg (λ_=>-1) 0 :=
 ⟨hp,λl _ _ p hp hc=>(h p hp hc).elim,λl _ q e=>by omega,λp hp hc=>(h p hp hc).elim,λl _=>bh rfl⟩
theorem R4.set{M Y:Nat}{pg:Nat->List Nat}(h:R4 M Y pg){q:Nat}{x:List Nat}(hx:x.length=Y)(ha:aY x):R4 M Y (upd pg q x):=by
 refine⟨λp hp=>?_,λp hp=>?_⟩
 .unfold upd;split
  .exact hx
  .exact h.len p hp
 .unfold upd;split
  .exact ha
  .exact h.all p hp
theorem DI.junk{M L Y seq:Nat}{pg:Nat->List Nat}{pa:Nat->Int}(h:DI M L Y pg pa seq){q:Nat}{x:List Nat}(hx:x.length=Y)(ha:aY x)(hn:¬pI x)(hq:¬pI (pg q)):DI M L Y (upd pg q x) pa seq/\∀ l,l<L->gX Y (upd pg q x) pa l=gX Y pg pa l:=by
 have hc:∀ p,pI (upd pg q x p)->p≠q/\pI (pg p):=λp hp=>by
  by_cases e:p=q
  .subst e;rw[upd_same] at hp;exact(hn hp).elim
  .rw[upd_ne _ _ _ _ e] at hp;exact⟨e,hp⟩
 refine⟨⟨h.pz.set hx ha,λl hl e p hp hcp=>?_,λl hl k e=>?_,λp hp hcp=>?_,h.SA⟩,λl hl=>?_⟩
 .obtain⟨e1,e2⟩:=hc p hcp
  rw[upd_ne _ _ _ _ e1];exact h.none l hl e p hp e2
 .obtain⟨h1,h2,h3,h4⟩:=h.some l hl k e
  have hk:k≠q:=by rintro rfl;exact hq h2
  rw[upd_ne _ _ _ _ hk]
  refine⟨h1,h2,h3,λp hp hpk hcp hlp=>?_⟩
  obtain⟨e1,e2⟩:=hc p hcp
  rw[upd_ne _ _ _ _ e1] at hlp ⊢
  exact h4 p hp hpk e2 hlp
 .obtain⟨e1,e2⟩:=hc p hcp
  rw[upd_ne _ _ _ _ e1];exact h.ok p hp e2
 .rcases h.SA l hl with e|⟨k,e⟩
  .unfold gX;rw[if_pos e,if_pos e]
  .have hk:k≠q:=by rintro rfl;exact hq (h.some l hl _ e).2.1
   unfold gX
   rw[e,cm,upd_ne _ _ _ _ hk]
theorem DI.put{M L Y seq kind l q:Nat}{pg:Nat->List Nat}{pa:Nat->Int}{data:List Nat}(h:DI M L Y pg pa seq)(hF:DY Y kind l seq data.length)(hk:kind=1\/kind=2)(hd1:kind=1->data.length+21=Y)(hd2:kind=2->data=[])(hA:aY data)(hl:l<L)(hq:q<M)(hn:¬pI (pg q)) :
 DI M L Y (upd pg q (aR Y kind l seq data)) (upd pa l (q:Int)) (seq+1)/\∀ k,k<L->gX Y (upd pg q (aR Y kind l seq data)) (upd pa l (q:Int)) k=if k=l then(if kind=1 then data else aq (Y-21) 0) else gX Y pg pa k:=by
 have hd:data.length+21<=Y:=hF.d1
 have hlen:(aR Y kind l seq data).length=Y:=gH Y kind l seq data hd
 have hv:f_ (aR Y kind l seq data):=valid_pack hF
 obtain⟨f1,f2,f3,f4,f5⟩:aQ (aR Y kind l seq data)=kind/\bS (aR Y kind l seq data)=l/\bO (aR Y kind l seq data)=seq/\aW (aR Y kind l seq data)=data.length/\aT (aR Y kind l seq data)=data:=nD hF
 have hcn:pI (aR Y kind l seq data):=⟨hv,by rw[f1];exact hk⟩
 generalize hX:aR Y kind l seq data=X at *
 have hXa:aY X:=by rw[<-hX];exact jA Y kind l seq data (by have:=hF.k1;omega) hA
 refine⟨⟨h.pz.set hlen hXa,λk hk e p hp hcp=>?_,λk hk r e=>?_,λp hp hcp=>?_,λk hk=>?_⟩,λk hk=>?_⟩
 .have hkl:k≠l:=by rintro rfl;rw[upd_same] at e;omega
  rw[upd_ne _ _ _ _ hkl] at e
  by_cases ep:p=q
  .subst ep;rw[upd_same,f2];exact λe'=>hkl e'.symm
  .rw[upd_ne _ _ _ _ ep] at hcp ⊢;exact h.none k hk e p hp hcp
 .by_cases hkl:k=l
  .subst hkl
   rw[upd_same] at e
   have er:r=q:=by omega
   subst er
   rw[upd_same]
   refine⟨hq,hcn,f2,λp hp hpr hcp hlp=>?_⟩
   rw[upd_ne _ _ _ _ hpr] at hcp ⊢
   rw[f3]
   exact(h.ok p hp hcp).2.1
  .rw[upd_ne _ _ _ _ hkl] at e
   obtain⟨h1,h2,h3,h4⟩:=h.some k hk r e
   have hrq:r≠q:=by rintro rfl;exact hn h2
   rw[upd_ne _ _ _ _ hrq]
   refine⟨h1,h2,h3,λp hp hpr hcp hlp=>?_⟩
   by_cases ep:p=q
   .subst ep;rw[upd_same,f2] at hlp;exact(hkl hlp.symm).elim
   .rw[upd_ne _ _ _ _ ep] at hcp hlp ⊢;exact h4 p hp hpr hcp hlp
 .by_cases ep:p=q
  .subst ep
   rw[upd_same,f1,f2,f3,f4]
   exact⟨hl,by omega,hd1,λe=>by rw[hd2 e];rfl⟩
  .rw[upd_ne _ _ _ _ ep] at hcp ⊢
   obtain⟨g1,g2,g3⟩:=h.ok p hp hcp
   exact⟨g1,by omega,g3⟩
 .by_cases hkl:k=l
  .subst hkl;right;exact⟨q,upd_same _ _ _⟩
  .rw[upd_ne _ _ _ _ hkl];exact h.SA k hk
 .by_cases hkl:k=l
  .subst hkl
   rw[if_pos rfl]
   unfold gX
   rw[upd_same,if_neg (by omega),cm,upd_same,f1,f5]
  .rw[if_neg hkl]
   rcases h.SA k hk with e|⟨r,e⟩
   .unfold gX;rw[upd_ne _ _ _ _ hkl,if_pos e,if_pos e]
   .have hrq:r≠q:=by rintro rfl;exact hn (h.some k hk _ e).2.1
    unfold gX
    rw[upd_ne _ _ _ _ hkl,e,cm,upd_ne _ _ _ _ hrq]
theorem DI.lose{M L Y seq:Nat}{pg Lp:Nat->List Nat}{pa:Nat->Int}(h:DI M L Y pg pa seq)(hp:R4 M Y Lp)(hs:∀ p,p<M->Lp p=pg p\/¬pI (Lp p))(hk:∀ l,l<L->∀ q:Nat,pa l=(q:Int)->Lp q=pg q):DI M L Y Lp pa seq/\∀ l,l<L->gX Y Lp pa l=gX Y pg pa l:=by
 have hc:∀ p,p<M->pI (Lp p)->Lp p=pg p:=λp hp hcp=>(hs p hp).elim id (λe=>(e hcp).elim)
 refine⟨⟨hp,λl hl e p hp hcp=>?_,λl hl k e=>?_,λp hp hcp=>?_,h.SA⟩,λl hl=>?_⟩
 .have e1:=hc p hp hcp
  rw[e1] at hcp ⊢;exact h.none l hl e p hp hcp
 .obtain⟨h1,h2,h3,h4⟩:=h.some l hl k e
  rw[hk l hl k e]
  refine⟨h1,h2,h3,λp hp hpk hcp hlp=>?_⟩
  have e1:=hc p hp hcp
  rw[e1] at hcp hlp ⊢
  exact h4 p hp hpk hcp hlp
 .have e1:=hc p hp hcp
  rw[e1] at hcp ⊢;exact h.ok p hp hcp
 .rcases h.SA l hl with e|⟨k,e⟩
  .unfold gX;rw[if_pos e,if_pos e]
  .unfold gX;rw[e,cm,hk l hl k e]
theorem DI.same{M L Y seq seq':Nat}{pg:Nat->List Nat}{pa pa':Nat->Int}(h:DI M L Y pg pa seq)(hs:∀ p,p<M->pI (pg p)->bO (pg p)<seq')(h0:∀ l,l<L->pa' l=-1\/∃ q:Nat,pa' l=(q:Int))(hn:∀ l,l<L->pa' l=-1->∀ p,p<M->pI (pg p)->bS (pg p)≠l)
 (hb:∀ l,l<L->∀ q:Nat,pa' l=(q:Int)->q<M/\pI (pg q)/\bS (pg q)=l/\∀ p,p<M->pI (pg p)->bS (pg p)=l->bO (pg p)<=bO (pg q)):DI M L Y pg pa' seq'/\∀ l,l<L->pa' l=pa l:=by
 have key:∀ l,l<L->pa' l=pa l:=λl hl=>by
  rcases h0 l hl with e|⟨q,e⟩
  .rcases h.SA l hl with e2|⟨q2,e2⟩
   .rw[e,e2]
   .obtain⟨g1,g2,g3,g4⟩:=h.some l hl q2 e2
    exact(hn l hl e q2 g1 g2 g3).elim
  .obtain⟨f1,f2,f3,f4⟩:=hb l hl q e
   rcases h.SA l hl with e2|⟨q2,e2⟩
   .exact(h.none l hl e2 q f1 f2 f3).elim
   .obtain⟨g1,g2,g3,g4⟩:=h.some l hl q2 e2
    by_cases eq:q=q2
    .rw[e,e2,eq]
    .have a1:=g4 q f1 eq f2 f3
     have a2:=f4 q2 g1 g2 g3
     omega
 refine⟨⟨h.pz,λl hl e=>h.none l hl (by rw[<-key l hl];exact e),λl hl q e=>h.some l hl q (by rw[<-key l hl];exact e),λp hp hc=>?_,λl hl=>by rw[key l hl];exact h.SA l hl⟩,key⟩
 obtain⟨g1,g2,g3⟩:=h.ok p hp hc
 exact⟨g1,hs p hp hc,g3⟩
theorem Es:∀ (L:Nat) (l:List Nat),l.Nodup->(∀ x∈l,x<L)->l.length<=L
 |0,l,_,h=>by
  cases l with
  |nil=>simp
  |cons x xs=>have:=h x (by simp);omega
 |L+1,l,hn,h=>by
  have h1:=Es L (l.filter (· != L)) (hn.filter _) (λx hx=>by
   rw[List.mem_filter] at hx
   have:=h x hx.1
   have h2:x≠L:=by simpa using hx.2
   omega)
  have h2:∀ (l:List Nat),l.Nodup->l.length<=(l.filter (· != L)).length+1:=by
   intro l
   induction l with
   |nil=>intro _;simp
   |cons x xs ih =>
    intro hn
    rw[List.nodup_cons] at hn
    by_cases e:x=L
    .subst e
     have:xs.filter (· != x)=xs:=by
      rw[List.filter_eq_self]
      intro y hy
      have:y≠x:=λe=>hn.1 (e▸hy)
      simpa using this
     simp[this]
    .have e2:(x != L)=true:=by simpa using e
     have e3:(x::xs).filter (· != L)=x::xs.filter (· != L):=by simp[e]
     rw[e3]
     have:=ih hn.2
     simp only[gS]
     omega
  have:=h2 l hn
  omega
def R5(lb:Nat->Int):Nat->List Nat
 |0=>[]
 |k+1=>if lb k=-1 then R5 lb k else(lb k).toNat::R5 lb k
theorem JA(lb:Nat->Int):∀ k,(R5 lb k).length=eZ lb k
 |0=>rfl
 |k+1=>by
  have ih:=JA lb k
  rw[R5,eZ]
  by_cases h:lb k=-1
  .rw[if_pos h,if_pos h,ih];rfl
  .rw[if_neg h,if_neg h,gS,ih]
theorem BK{L M:Nat}{s:Bk}(h:Inv L M s):∀ k,k<=M->∀ x,x∈R5 s.lb k->∃ p,p<k/\s.lb p=(x:Int)
 |0,_,x,hx=>by simp[R5] at hx
 |k+1,hk,x,hx=>by
  have ih:=BK h k (by omega)
  rw[R5] at hx
  by_cases e:s.lb k=-1
  .rw[if_pos e] at hx
   obtain⟨p,hp,ep⟩:=ih x hx
   exact⟨p,by omega,ep⟩
  .rw[if_neg e] at hx
   rcases gv.1 hx with rfl|hx
   .rcases h.o k (by omega) with e2|⟨l,_,e2,_⟩
    .exact(e e2).elim
    .exact⟨k,by omega,by omega⟩
   .obtain⟨p,hp,ep⟩:=ih x hx
    exact⟨p,by omega,ep⟩
theorem Ag{L M:Nat}{s:Bk}(h:Inv L M s):∀ k,k<=M->(R5 s.lb k).Nodup
 |0,_=>by simp[R5]
 |k+1,hk=>by
  have ih:=Ag h k (by omega)
  rw[R5]
  by_cases e:s.lb k=-1
  .rw[if_pos e];exact ih
  .rw[if_neg e,List.nodup_cons]
   refine⟨λhx=>?_,ih⟩
   obtain⟨p,hp,ep⟩:=BK h k (by omega) _ hx
   rcases h.o k (by omega) with e2|⟨l,_,e2,e3⟩
   .exact e e2
   .rcases h.o p (by omega) with e4|⟨l',_,e4,e5⟩
    .omega
    .have:l'=l:=by omega
     subst this
     omega
theorem SC{L M:Nat}{s:Bk}(h:Inv L M s):eZ s.lb M<=L:=by
 rw[<-JA]
 refine Es L _ (Ag h M (al _)) (λx hx=>?_)
 obtain⟨p,hp,e⟩:=BK h M (al _) x hx
 rcases h.o p hp with e2|⟨l,hl,e2,_⟩
 .omega
 .omega
def iU(f:Nat->Nat):Nat->Nat
 |0=>0
 |k+1=>iU f k+f k
theorem JB{f g:Nat->Nat}:∀ n,(∀ k,k<n->f k<=g k)->iU f n<=iU g n
 |0,_=>al _
 |n+1,h=>by
  have:=JB n (λk hk=>h k (by omega))
  have:=h n (by omega)
  rw[iU,iU]
  omega
theorem wJ{f g:Nat->Nat}:∀ n,(∀ k,k<n->f k=g k)->iU f n=iU g n
 |0,_=>rfl
 |n+1,h=>by rw[iU,iU,wJ n (λk hk=>h k (by omega)),h n (by omega)]
theorem nH{f g:Nat->Nat}{k:Nat}:∀ n,k<n->(∀ i,i<n->i≠k->g i=f i)->iU g n+f k=iU f n+g k
 |0,h,_=>by omega
 |n+1,h,hg=>by
  rw[iU,iU]
  by_cases e:k=n
  .subst e
   have:=wJ k (λi hi=>hg i (by omega) (by omega))
   omega
  .have:=nH n (by omega) (λi hi hne=>hg i (by omega) hne)
   have:=hg n (by omega) (λe'=>e e'.symm)
   omega
theorem Et(f:Nat->Int)(a:Nat):∀ b,eZ f (a+b)=eZ f a+eZ (λi=>f (a+i)) b
 |0=>rfl
 |b+1=>by
  rw[<-Nat.add_assoc,eZ,eZ,Et f a b]
  omega
def aZ(P:Nat)(s:Bk)(k:Nat):Nat:=eZ (λi=>s.lb (k*P+i)) P
theorem Eu(P:Nat)(s:Bk):∀ N,iU (aZ P s) N=eZ s.lb (N*P)
 |0=>by rw[Nat.zero_mul];rfl
 |N+1=>by
  rw[iU,Eu P s N,ee,ff,Et]
  rfl
theorem qJ(P:Nat)(s:Bk)(k:Nat):aZ P s k<=P:=BF _ _
structure iQ where
 next:Nat->Nat
 bad:Nat->Bool
def cZ(P:Nat)(c:iQ)(k:Nat):Nat:=if c.bad k=true then 0 else P-c.next k
def aN(P N:Nat)(c:iQ):Nat:=iU (cZ P c) N
def cB(N:Nat)(c:iQ):Nat:=iU (λk=>if c.bad k=true then 1 else 0) N
def sG(P N:Nat)(c:iQ):Prop:=∀ i k,i<N->k<N->c.bad i=false->c.bad k=false->0<c.next i->c.next i<P->0<c.next k->c.next k<P->i=k
def Full(P:Nat)(c:iQ)(k:Nat):Prop:=c.bad k=false/\c.next k=P
theorem BP{L P N spare:Nat}{s:Bk}{c:iQ}(hI:Inv L (N*P) s)(hP:1<=P)(h1:sG P N c)(hb:cB N c<=spare)(hs:spare+4<=N)(hL:L<=(N-spare-4)*P)(hn:∀ k,c.next k<=P)(hlt:aN P N c<(spare-cB N c+3)*P):∃ k,k<N/\Full P c k/\aZ P s k<P:=by
 refine cD λhno=>?_
 have hfull:∀ k,k<N->Full P c k->aZ P s k=P:=λk hk hF=>by
  have:=qJ P s k
  rcases Nat.lt_or_ge (aZ P s k) P with h|h
  .exact(hno ⟨k,hk,hF,h⟩).elim
  .omega
 -- each block is bad,or full and all live,or blank,or the one in between
 have key:∀ n,n<=N->n*P<=iU (aZ P s) n+aN P n c+cB n c*P+P/\((∀ k,k<n->c.bad k=false->¬(0<c.next k/\c.next k<P))->n*P<=iU (aZ P s) n+aN P n c+cB n c*P):=by
  intro n
  induction n with
  |zero=>intro _;simp[aN,cB,iU]
  |succ n ih =>
   intro hn1
   obtain⟨i1,i2⟩:=ih (by omega)
   have e1:iU (aZ P s) (n+1)=iU (aZ P s) n+aZ P s n:=rfl
   have e2:aN P (n+1) c=aN P n c+cZ P c n:=rfl
   have e3:cB (n+1) c=cB n c+(if c.bad n=true then 1 else 0):=rfl
   have e4:(n+1)*P=n*P+P:=by rw[ee,ff]
   rw[e1,e2,e3,e4]
   have hnx:=hn n
   cases hbad:c.bad n with
   |true =>
    have e5:(cB n c+1)*P=cB n c*P+P:=by rw[ee,ff]
    simp only[if_true]
    rw[e5]
    refine⟨by omega,λh=>?_⟩
    have:=i2 (λk hk=>h k (by omega))
    omega
   |false =>
    have e5:cZ P c n=P-c.next n:=by unfold cZ;rw[hbad];rfl
    simp only[Bool.false_eq_true,if_false,Nat.add_zero]
    rw[e5]
    by_cases hf:c.next n=P
    .have:=hfull n (by omega) ⟨hbad,hf⟩
     refine⟨by omega,λh=>?_⟩
     have:=i2 (λk hk=>h k (by omega))
     omega
    .by_cases h0:c.next n=0
     .refine⟨by omega,λh=>?_⟩
      have:=i2 (λk hk=>h k (by omega))
      omega
     ·-- the one in between: no other ahead of it
      have hnone:∀ k,k<n->c.bad k=false->¬(0<c.next k/\c.next k<P):=λk hk hbk ⟨q1,q2⟩=>by
       have:=h1 k n (by omega) (by omega) hbk hbad q1 q2 (by omega) (by omega)
       omega
      have:=i2 hnone
      refine⟨by omega,λh=>?_⟩
      exact(h n (by omega) hbad ⟨by omega,by omega⟩).elim
 obtain⟨k1,_⟩:=key N (al _)
 rw[Eu] at k1
 have hlv:=SC hI
 have e6:N*P=(N-spare-4)*P+(spare+4)*P:=by rw[<-ee];congr 1;omega
 have e7:(spare+4)*P=(spare-cB N c+3)*P+(cB N c*P+P):=by
  rw[<-e_,<-ee];congr 1;omega
 omega
def bT(P N spare:Nat)(c:iQ):Nat:=(spare-cB N c+3)*P
def Room(P N spare k:Nat)(s:Bk)(c:iQ):Prop:=bT P N spare c<=aN P N c\/∃ v,v<N/\Full P c v/\aZ P s v<P/\bT P N spare c<=aN P N c+(P-aZ P s v)+k
theorem Room.more{P N spare k k':Nat}{s:Bk}{c:iQ}(h:Room P N spare k s c)(hk:k<=k'):Room P N spare k' s c:=by
 rcases h with h|⟨v,h1,h2,h3,h4⟩
 .exact bh h
 .exact be ⟨v,h1,h2,h3,by omega⟩
theorem vL{P N spare:Nat}{c:iQ}:3*P<=bT P N spare c:=by
 unfold bT
 rw[ee]
 omega
def dR(c:iQ)(b:Nat):iQ:=⟨upd c.next b (c.next b+1),c.bad⟩
theorem wL{N:Nat}{c:iQ}{b:Nat}:cB N (dR c b)=cB N c:=rfl
theorem Lr{P N spare:Nat}{c:iQ}{b:Nat}:bT P N spare (dR c b)=bT P N spare c:=rfl
theorem wM{P N:Nat}{c:iQ}{b:Nat}(hb:b<N)(hg:c.bad b=false)(hn:c.next b<P):aN P N (dR c b)+1=aN P N c:=by
 have h:=nH (f:=cZ P c) (g:=cZ P (dR c b)) (k:=b) N hb (λi hi hne=>by
  unfold cZ dR
  dsimp only
  rw[upd_ne _ _ _ _ hne])
 have e1:cZ P c b=P-c.next b:=by unfold cZ;rw[hg];rfl
 have e2:cZ P (dR c b) b=P-(c.next b+1):=by
  unfold cZ dR
  dsimp only
  rw[upd_same,hg];rfl
 unfold aN
 omega
theorem Ls{P:Nat}{c:iQ}{b v:Nat}(hb:c.next b<P)(hv:Full P c v):v≠b/\Full P (dR c b) v:=by
 have hne:v≠b:=by rintro rfl;have:=hv.2;omega
 refine⟨hne,hv.1,?_⟩
 show upd c.next b (c.next b+1) v=P
 rw[upd_ne _ _ _ _ hne];exact hv.2
def vE(P N:Nat)(c:iQ)(b:Nat):Prop:=b<N/\c.bad b=false/\c.next b<P/\(c.next b=0->∀ i,i<N->c.bad i=false->¬(0<c.next i/\c.next i<P))
theorem Oa{P N:Nat}{c:iQ}{b:Nat}(h:sG P N c)(hx:vE P N c b):sG P N (dR c b):=by
 obtain⟨h1,h2,h3,h4⟩:=hx
 have key:∀ i,i<N->c.bad i=false->0<(dR c b).next i->(dR c b).next i<P->i=b:=by
  intro i hi hbi q1 q2
  by_cases e:i=b
  .exact e
  .have e2:(dR c b).next i=c.next i:=upd_ne _ _ _ _ e
   rw[e2] at q1 q2
   by_cases h0:c.next b=0
   .exact(h4 h0 i hi hbi ⟨q1,q2⟩).elim
   .exact h i b hi h1 hbi h2 q1 q2 (by omega) h3
 intro i k hi hk hbi hbk q1 q2 q3 q4
 rw[key i hi hbi q1 q2,key k hk hbk q3 q4]
def h_(c:iQ)(v:Nat):iQ:=⟨upd c.next v 0,c.bad⟩
theorem wP{P N:Nat}{c:iQ}{v:Nat}(hv:v<N)(hF:Full P c v):aN P N (h_ c v)=aN P N c+P:=by
 have h:=nH (f:=cZ P c) (g:=cZ P (h_ c v)) (k:=v) N hv (λi hi hne=>by
  unfold cZ h_
  dsimp only
  rw[upd_ne _ _ _ _ hne])
 have e1:cZ P c v=0:=by unfold cZ;rw[hF.1,hF.2];simp
 have e2:cZ P (h_ c v) v=P:=by
  unfold cZ h_
  dsimp only
  rw[upd_same,hF.1];rfl
 unfold aN
 omega
theorem Ob{P N:Nat}{c:iQ}{v:Nat}(h:sG P N c):sG P N (h_ c v):=by
 have key:∀ i,0<(h_ c v).next i->i≠v/\(h_ c v).next i=c.next i:=λi q=>by
  by_cases e:i=v
  .subst e
   have:(h_ c i).next i=0:=upd_same _ _ _
   omega
  .exact⟨e,upd_ne _ _ _ _ e⟩
 intro i k hi hk hbi hbk q1 q2 q3 q4
 obtain⟨_,e1⟩:=key i q1
 obtain⟨_,e2⟩:=key k q3
 rw[e1] at q1 q2
 rw[e2] at q3 q4
 exact h i k hi hk hbi hbk q1 q2 q3 q4
def fC(c:iQ)(v:Nat):iQ:=⟨c.next,upd c.bad v true⟩
theorem wQ{P N:Nat}{c:iQ}{v:Nat}(hv:v<N)(hF:Full P c v):aN P N (fC c v)=aN P N c:=by
 have h:=nH (f:=cZ P c) (g:=cZ P (fC c v)) (k:=v) N hv (λi hi hne=>by
  have e:(fC c v).bad i=c.bad i:=upd_ne _ _ _ _ hne
  show (if (fC c v).bad i=true then 0 else P-c.next i)=(if c.bad i=true then 0 else P-c.next i)
  simp only[e])
 have e1:cZ P c v=0:=by unfold cZ;rw[hF.1,hF.2];simp
 have e2:cZ P (fC c v) v=0:=by
  have e:(fC c v).bad v=true:=upd_same _ _ _
  show (if (fC c v).bad v=true then 0 else P-c.next v)=0
  simp only[e,if_true]
 unfold aN
 omega
theorem Ev{N:Nat}{c:iQ}{v:Nat}(hv:v<N)(hg:c.bad v=false):cB N (fC c v)=cB N c+1:=by
 have h:=nH (f:=λk=>if c.bad k=true then 1 else 0) (g:=λk=>if (fC c v).bad k=true then 1 else 0) (k:=v) N hv (λi hi hne=>by
  show (if upd c.bad v true i=true then 1 else 0)=_
  rw[upd_ne _ _ _ _ hne])
 have e1:(if c.bad v=true then 1 else 0)=0:=by rw[hg];rfl
 have e2:(if (fC c v).bad v=true then 1 else 0)=1:=by
  show (if upd c.bad v true v=true then 1 else 0)=1
  rw[upd_same];rfl
 simp only[e1,e2] at h
 unfold cB
 omega
theorem Oc{P N:Nat}{c:iQ}{v:Nat}(h:sG P N c):sG P N (fC c v):=by
 have key:∀ i,(fC c v).bad i=false->c.bad i=false:=λi q=>by
  by_cases e:i=v
  .subst e
   have:(fC c i).bad i=true:=upd_same _ _ _
   rw[this] at q;cases q
  .have:(fC c v).bad i=c.bad i:=upd_ne _ _ _ _ e
   rw[<-this];exact q
 intro i k hi hk hbi hbk q1 q2 q3 q4
 exact h i k hi hk (key i hbi) (key k hbk) q1 q2 q3 q4
structure Fit(L P N spare:Nat):Prop where
 p1:1<=P
 n4:spare+4<=N
 l1:L<=(N-spare-4)*P
theorem wR{L P N spare:Nat}{s s':Bk}{c:iQ}{b:Nat}(hF:Fit L P N spare)(hI:Inv L (N*P) s')(h1:sG P N (dR c b))(hn:∀ k,(dR c b).next k<=P)(hb:cB N c<=spare)(hx:b<N/\c.bad b=false/\c.next b<P)(h:bT P N spare c<=aN P N c):Room P N spare 0 s' (dR c b):=by
 have e:=wM hx.1 hx.2.1 hx.2.2
 by_cases h2:bT P N spare (dR c b)<=aN P N (dR c b)
 .exact bh h2
 .obtain⟨v,hv,hf,hl⟩:=BP hI hF.p1 h1 (by rw[wL];exact hb) hF.n4 hF.l1 hn (by unfold bT at h2;omega)
  refine be ⟨v,hv,hf,hl,?_⟩
  rw[Lr]
  omega
theorem wS{L P N spare k v:Nat}{s:Bk}{c:iQ}(h:Room P N spare k s c)(hs:aN P N c<bT P N spare c)(hv:v<N/\Full P c v/\aZ P s v<P)(hmin:∀ u,u<N->Full P c u->aZ P s u<P->aZ P s v<=aZ P s u):bT P N spare c<=aN P N c+(P-aZ P s v)+k:=by
 rcases h with h|⟨u,h1,h2,h3,h4⟩
 .omega
 .have:=hmin u h1 h2 h3
  omega
theorem G9{L P N spare k v:Nat}{s:Bk}{c:iQ}(hF:Fit L P N spare)(hI:Inv L (N*P) s)(h1:sG P N (h_ c v))(hn:∀ i,(h_ c v).next i<=P)(hb:cB N c<=spare)(hv:v<N/\Full P c v)(h:bT P N spare c<=aN P N c+P+k):Room P N spare k s (h_ c v):=by
 have e:=wP hv.1 hv.2
 have e2:bT P N spare (h_ c v)=bT P N spare c:=rfl
 by_cases h2:bT P N spare (h_ c v)<=aN P N (h_ c v)
 .exact bh h2
 .obtain⟨u,hu,hf,hl⟩:=BP hI hF.p1 h1 hb hF.n4 hF.l1 hn (by unfold bT at h2;omega)
  exact be ⟨u,hu,hf,hl,by omega⟩
theorem Ew{L P N spare k v:Nat}{s:Bk}{c:iQ}(hF:Fit L P N spare)(hI:Inv L (N*P) s)(h1:sG P N (fC c v))(hn:∀ i,(fC c v).next i<=P)(hb:cB N (fC c v)<=spare)(hv:v<N/\Full P c v)(h:bT P N spare c<=aN P N c+P+k):Room P N spare k s (fC c v):=by
 have e:=wQ hv.1 hv.2
 have e1:=Ev hv.1 hv.2.1
 have e2:bT P N spare c=bT P N spare (fC c v)+P:=by
  unfold bT
  rw[e1,<-e_]
  congr 1
  omega
 by_cases h2:bT P N spare (fC c v)<=aN P N (fC c v)
 .exact bh h2
 .obtain⟨u,hu,hf,hl⟩:=BP hI hF.p1 h1 hb hF.n4 hF.l1 hn (by unfold bT at h2;omega)
  exact be ⟨u,hu,hf,hl,by omega⟩
theorem BS{P N:Nat}{c:iQ}(h:0<aN P N c):∃ k,k<N/\c.bad k=false/\c.next k<P:=by
 refine cD λhno=>?_
 have:iU (cZ P c) N<=iU (λ_=>0) N:=JB N (λk hk=>by
  unfold cZ
  cases hb:c.bad k with
  |true=>simp
  |false =>
   have:¬c.next k<P:=λe=>hno ⟨k,hk,hb,e⟩
   simp;omega)
 have h0:∀ n,iU (λ_=>0) n=0:=λn=>by
  induction n with
  |zero=>rfl
  |succ n ih=>rw[iU,ih]
 rw[h0] at this
 unfold aN at h
 omega
theorem Ey{f g:Nat->Int}{k:Nat}:∀ n,k<n->(∀ i,i<n->i≠k->g i=f i)->eZ g n+(if f k=-1 then 0 else 1)=eZ f n+(if g k=-1 then 0 else 1)
 |0,h,_=>by omega
 |n+1,h,hg=>by
  rw[eZ,eZ]
  by_cases e:k=n
  .subst e
   have h2:∀ m,m<=k->eZ g m=eZ f m:=λm hm=>by
    induction m with
    |zero=>rfl
    |succ m ih=>rw[eZ,eZ,ih (by omega),hg m (by omega) (by omega)]
   have:=h2 k (al _)
   omega
  .have:=Ey n (by omega) (λi hi hne=>hg i (by omega) hne)
   have:=hg n (by omega) (λe'=>e e'.symm)
   rw[this]
   omega
theorem G_{f g:Nat->Int}:∀ n,(∀ i,i<n->g i=f i)->eZ g n=eZ f n
 |0,_=>rfl
 |n+1,h=>by rw[eZ,eZ,G_ n (λi hi=>h i (by omega)),h n (by omega)]
theorem Ah{f:Nat->Int}:∀ n,(∀ i,i<n->f i=-1)->eZ f n=0
 |0,_=>rfl
 |n+1,h=>by rw[eZ,Ah n (λi hi=>h i (by omega)),h n (by omega)];rfl
end Go.Proofs.au
namespace Go.Proofs.au
open Go.RowKit
theorem Ai{l xs:List Nat}{off i:Nat}(h:off+xs.length<=l.length):(splice l off xs)[i]?=if i<off then l[i]? else if i<off+xs.length then xs[i-off]? else l[i]?:=by
 unfold splice
 have hl:(l.take off).length=off:=by simp;omega
 by_cases h1:i<off
 .rw[if_pos h1,jb (by rw[hl];exact h1),eW,if_pos h1]
 .rw[if_neg h1,eR (by rw[hl];omega),hl]
  by_cases h2:i<off+xs.length
  .rw[if_pos h2,jb (by omega)]
  .rw[if_neg h2,eR (by omega),lL]
   congr 1;omega
theorem BU{l:List Nat}{a n i:Nat}:(dV l a n)[i]?=if i<n then l[a+i]? else none:=by
 unfold dV
 rw[eW]
 split
 .rw[lL]
 .rfl
theorem Od{l xs:List Nat}{j Y:Nat}(hx:xs.length<=Y)(hl:j*Y+Y<=l.length):dV (splice l (j*Y) xs) (j*Y) Y=xs++(dV l (j*Y) Y).drop xs.length:=by
 apply mr
 intro i
 rw[BU,Ai (by omega)]
 by_cases h1:i<xs.length
 .rw[if_pos (by omega),if_neg (by omega),if_pos (by omega),jb h1]
  congr 1;omega
 .rw[eR (by omega),lL,BU]
  by_cases h2:i<Y
  .rw[if_pos h2,if_neg (by omega),if_neg (by omega),if_pos (by omega)]
   congr 1;omega
  .rw[if_neg h2,if_neg (by omega)]
theorem Aj{l xs:List Nat}{i j Y:Nat}(hx:xs.length<=Y)(hl:j*Y+Y<=l.length)(hij:i≠j):dV (splice l (j*Y) xs) (i*Y) Y=dV l (i*Y) Y:=by
 apply mr
 intro k
 rw[BU,BU]
 by_cases hk:k<Y
 .rw[if_pos hk,if_pos hk,Ai (by omega)]
  rcases Nat.lt_or_gt_of_ne hij with h|h
  .have:i*Y+Y<=j*Y:=by rw[<-e_];exact cN Y h
   rw[if_pos (by omega)]
  .have:j*Y+Y<=i*Y:=by rw[<-e_];exact cN Y h
   rw[if_neg (by omega),if_neg (by omega)]
 .rw[if_neg hk,if_neg hk]
theorem vM{n v a k:Nat}(h:a+k<=n):dV (aq n v) a k=aq k v:=by
 unfold dV
 rw[List.drop_replicate,List.take_replicate]
 congr 1;omega
def gL(P Y:Nat)(bytes:Nat->List Nat)(p:Nat):List Nat:=dV (bytes (p/P)) (p%P*Y) Y
theorem div_mul{k j P:Nat}(h:j<P):(k*P+j)/P=k/\(k*P+j)%P=j:=by
 have hP:0<P:=by omega
 refine⟨?_,?_⟩
 .rw[fL,Nat.mul_add_div hP,Nat.div_eq_of_lt h,Nat.add_zero]
 .rw[fL,Nat.mul_add_mod,Nat.mod_eq_of_lt h]
theorem Oe{P Y k j:Nat}{bytes:Nat->List Nat}(h:j<P):gL P Y bytes (k*P+j)=dV (bytes k) (j*Y) Y:=by
 unfold gL
 rw[(div_mul h).1,(div_mul h).2]
theorem Ez{k j P N:Nat}(hk:k<N)(hj:j<P):k*P+j<N*P:=by
 have:k*P+P<=N*P:=by rw[<-e_];exact cN P hk
 omega
theorem nI{p P N:Nat}(hp:p<N*P):p/P<N/\p%P<P/\p=p/P*P+p%P:=by
 have hP:0<P:=by
  rcases Nat.eq_zero_or_pos P with e|e
  .rw[e,Nat.mul_zero] at hp;omega
  .exact e
 refine⟨?_,ly _ hP,?_⟩
 .rw[Nat.div_lt_iff_lt_mul hP];exact hp
 .have:=im p P;rw[fL] at this;omega
theorem JD{P Y N k j:Nat}{bytes:Nat->List Nat}{xs:List Nat}(hk:k<N)(hj:j<P)(hx:xs.length<=Y)(hl:(bytes k).length=P*Y):∀ p,p<N*P->gL P Y (upd bytes k (splice (bytes k) (j*Y) xs)) p=upd (gL P Y bytes) (k*P+j) (xs++(dV (bytes k) (j*Y) Y).drop xs.length) p:=by
 intro p hp
 obtain⟨h1,h2,h3⟩:=nI hp
 have hjY:j*Y+Y<=(bytes k).length:=by rw[hl,<-e_];exact cN Y hj
 by_cases e:p=k*P+j
 .rw[e,upd_same,Oe hj,upd_same]
  exact Od hx hjY
 .rw[upd_ne _ _ _ _ e]
  unfold gL
  by_cases ek:p/P=k
  .rw[ek,upd_same]
   refine Aj hx hjY (λej=>e ?_)
   rw[h3,ek,ej]
  .rw[upd_ne _ _ _ _ ek]
theorem Og{P Y N k v:Nat}{bytes:Nat->List Nat}:∀ p,p<N*P->gL P Y (upd bytes k (aq (P*Y) v)) p=if p/P=k then aq Y v else gL P Y bytes p:=by
 intro p hp
 obtain⟨h1,h2,h3⟩:=nI hp
 unfold gL
 by_cases ek:p/P=k
 .rw[if_pos ek,ek,upd_same]
  exact vM (by rw[<-e_];exact cN Y h2)
 .rw[if_neg ek,upd_ne _ _ _ _ ek]
theorem wU{n:Nat}:¬pI (aq n 255):=λh=>by
 have:=nG h.1
 rw[j9] at this
 split at this<;>simp at this
theorem Lu{n:Nat}:¬pI (aq n 0):=λh=>by
 have:=nG h.1
 rw[j9] at this
 split at this<;>simp at this
theorem SE{p:List Nat}{k:Nat}(h:k<p.length):¬pI (wG p k):=λhc=>Eo h hc.1
theorem SF{n fZ seq:Nat}{data:List Nat}(h:DY n 3 fZ seq data.length):¬pI (aR n 3 fZ seq data):=λhc=>by
 have:=(nD h).1
 rcases hc.2 with e|e<;>omega
theorem BX{n v:Nat}(h:v<256):aY (aq n v):=λx hx=>by
 rw[List.eq_of_mem_replicate hx];exact h
structure DV(N P Y L:Nat)(bytes:Nat->List Nat)(c:iQ)(k:Bk)(seq:Nat):Prop where
 di:DI (N*P) L Y (gL P Y bytes) k.pa seq
 inv:Inv L (N*P) k
 bl:∀ b,b<N->c.bad b=false->∀ j,c.next b<=j->j<P->dV (bytes b) (j*Y) Y=aq Y 255
 one:sG P N c
 nx:∀ b,c.next b<=P
 len:∀ b,b<N->(bytes b).length=P*Y
def nJ(P Y:Nat)(bytes:Nat->List Nat)(k:Bk)(l:Nat):List Nat:=gX Y (gL P Y bytes) k.pa l
theorem DI.congr{M L Y seq:Nat}{pg Lp:Nat->List Nat}{pa:Nat->Int}(h:DI M L Y pg pa seq)(he:∀ p,p<M->Lp p=pg p):DI M L Y Lp pa seq/\∀ l,l<L->gX Y Lp pa l=gX Y pg pa l :=
 h.lose ⟨λp hp=>by rw[he p hp];exact h.pz.len p hp,λp hp=>by rw[he p hp];exact h.pz.all p hp⟩ (λp hp=>bh (he p hp)) (λl hl q e=>he q (h.some l hl q e).1)
theorem DV.blank{N P Y L seq b:Nat}{bytes:Nat->List Nat}{c:iQ}{k:Bk}(h:DV N P Y L bytes c k seq)(hx:vE P N c b):¬pI (gL P Y bytes (b*P+c.next b))/\b*P+c.next b<N*P/\k.lb (b*P+c.next b)=-1:=by
 have hq:=Ez hx.1 hx.2.2.1
 have hn:¬pI (gL P Y bytes (b*P+c.next b)):=by
  rw[Oe hx.2.2.1,h.bl b hx.1 hx.2.1 _ (al _) hx.2.2.1]
  exact wU
 refine⟨hn,hq,?_⟩
 rcases h.inv.o _ hq with e|⟨l,hl,e1,e2⟩
 .exact e
 .exact(hn (h.di.some l hl _ e2).2.1).elim
theorem DV.rest{N P Y L seq b:Nat}{bytes:Nat->List Nat}{c:iQ}{k:Bk}(h:DV N P Y L bytes c k seq)(hx:vE P N c b){xs:List Nat}(hxs:xs.length<=Y) :
 (∀ i,i<N->(dR c b).bad i=false->∀ j,(dR c b).next i<=j->j<P->dV (upd bytes b (splice (bytes b) (c.next b*Y) xs) i) (j*Y) Y=aq Y 255)/\sG P N (dR c b)/\(∀ i,(dR c b).next i<=P)/\(∀ i,i<N->(upd bytes b (splice (bytes b) (c.next b*Y) xs) i).length=P*Y):=by
 have hY:c.next b*Y+Y<=(bytes b).length:=by rw[h.len b hx.1,<-e_];exact cN Y hx.2.2.1
 refine⟨λi hi hbi j hj SG=>?_,Oa h.one hx,λi=>?_,λi hi=>?_⟩
 .by_cases e:i=b
  .subst e
   have e2:(dR c i).next i=c.next i+1:=upd_same _ _ _
   rw[e2] at hj
   rw[upd_same,Aj hxs hY (by omega)]
   exact h.bl i hi hbi j (by omega) SG
  .have e2:(dR c b).next i=c.next i:=upd_ne _ _ _ _ e
   rw[e2] at hj
   rw[upd_ne _ _ _ _ e]
   exact h.bl i hi hbi j hj SG
 .by_cases e:i=b
  .subst e
   have e2:(dR c i).next i=c.next i+1:=upd_same _ _ _
   have:=hx.2.2.1
   omega
  .have e2:(dR c b).next i=c.next i:=upd_ne _ _ _ _ e
   rw[e2];exact h.nx i
 .by_cases e:i=b
  .subst e
   rw[upd_same]
   unfold splice
   rw[cJ,cJ,eh,List.length_drop,h.len i hi]
   rw[h.len i hi] at hY
   omega
  .rw[upd_ne _ _ _ _ e];exact h.len i hi
theorem DV.put{N P Y L seq b kind l:Nat}{bytes:Nat->List Nat}{c:iQ}{k:Bk}{data:List Nat}(h:DV N P Y L bytes c k seq)(hx:vE P N c b)(hF:DY Y kind l seq data.length)(hk:kind=1\/kind=2)(hd1:kind=1->data.length+21=Y)(hd2:kind=2->data=[])(hA:aY data)(hl:l<L) :
 DV N P Y L (upd bytes b (splice (bytes b) (c.next b*Y) (aR Y kind l seq data))) (dR c b) (jS k l (b*P+c.next b)) (seq+1)/\∀ j,j<L->nJ P Y (upd bytes b (splice (bytes b) (c.next b*Y) (aR Y kind l seq data))) (jS k l (b*P+c.next b)) j=if j=l then(if kind=1 then data else aq (Y-21) 0) else nJ P Y bytes k j:=by
 obtain⟨hn,hq,hlb⟩:=h.blank hx
 have hlen:(aR Y kind l seq data).length=Y:=gH Y kind l seq data hF.d1
 obtain⟨r1,r2,r3,r4⟩:=h.rest hx (xs:=aR Y kind l seq data) (by omega)
 obtain⟨d1,d2⟩:=h.di.put hF hk hd1 hd2 hA hl hq hn
 have he:∀ p,p<N*P->gL P Y (upd bytes b (splice (bytes b) (c.next b*Y) (aR Y kind l seq data))) p=upd (gL P Y bytes) (b*P+c.next b) (aR Y kind l seq data) p:=λp hp=>by
  rw[JD hx.1 hx.2.2.1 (by omega) (h.len b hx.1) p hp]
  congr 1
  rw[List.drop_eq_nil_of_le,ie]
  unfold dV
  rw[eh]
  omega
 obtain⟨d3,d4⟩:=d1.congr he
 refine⟨⟨?_,Ej h.inv hl hq (bh hlb),r1,r2,r3,r4⟩,λj hj=>?_⟩
 .rw[Jy];exact d3
 .show gX Y _ (jS k l (b*P+c.next b)).pa j=_
  rw[Jy,d4 j hj]
  exact d2 j hj
theorem DV.junk{N P Y L seq b:Nat}{bytes:Nat->List Nat}{c:iQ}{k:Bk}{xs:List Nat}(h:DV N P Y L bytes c k seq)(hx:vE P N c b)(hxs:xs.length<=Y)(hA:aY xs)(hn:¬pI (xs++aq (Y-xs.length) 255)) :
 DV N P Y L (upd bytes b (splice (bytes b) (c.next b*Y) xs)) (dR c b) k seq/\∀ j,j<L->nJ P Y (upd bytes b (splice (bytes b) (c.next b*Y) xs)) k j=nJ P Y bytes k j:=by
 obtain⟨hn0,hq,hlb⟩:=h.blank hx
 obtain⟨r1,r2,r3,r4⟩:=h.rest hx hxs
 have hX:xs++(dV (bytes b) (c.next b*Y) Y).drop xs.length=xs++aq (Y-xs.length) 255:=by
  rw[h.bl b hx.1 hx.2.1 _ (al _) hx.2.2.1,List.drop_replicate]
 obtain⟨d1,d2⟩:=h.di.junk (q:=b*P+c.next b) (x:=xs++aq (Y-xs.length) 255) (by simp;omega) (aY.app hA (BX (by omega))) hn hn0
 have he:∀ p,p<N*P->gL P Y (upd bytes b (splice (bytes b) (c.next b*Y) xs)) p=upd (gL P Y bytes) (b*P+c.next b) (xs++aq (Y-xs.length) 255) p:=λp hp=>by
  rw[JD hx.1 hx.2.2.1 hxs (h.len b hx.1) p hp,hX]
 obtain⟨d3,d4⟩:=d1.congr he
 exact⟨⟨d3,h.inv,r1,r2,r3,r4⟩,λj hj=>(d4 j hj).trans (d2 j hj)⟩
theorem DV.note{N P Y L seq b fZ sq:Nat}{bytes:Nat->List Nat}{c:iQ}{k:Bk}{data:List Nat}(h:DV N P Y L bytes c k seq)(hx:vE P N c b)(hF:DY Y 3 fZ sq data.length)(hA:aY data) :
 DV N P Y L (upd bytes b (splice (bytes b) (c.next b*Y) (aR Y 3 fZ sq data))) (dR c b) k seq/\∀ j,j<L->nJ P Y (upd bytes b (splice (bytes b) (c.next b*Y) (aR Y 3 fZ sq data))) k j=nJ P Y bytes k j:=by
 have hlen:(aR Y 3 fZ sq data).length=Y:=gH Y 3 fZ sq data hF.d1
 refine h.junk hx (by omega) (jA Y 3 fZ sq data (by omega) hA) ?_
 rw[hlen,Nat.sub_self,List.replicate_zero,ie]
 exact SF hF
theorem DV.abx{N P Y L seq b:Nat}{bytes:Nat->List Nat}{c:iQ}{k:Bk}{page:List Nat}(h:DV N P Y L bytes c k seq)(hx:vE P N c b)(hp:page.length=Y)(hY:8<=Y)(hA:aY page) :
 DV N P Y L (upd bytes b (splice (bytes b) (c.next b*Y) (page.take (Y/2)))) (dR c b) k seq/\∀ j,j<L->nJ P Y (upd bytes b (splice (bytes b) (c.next b*Y) (page.take (Y/2)))) k j=nJ P Y bytes k j:=by
 have hl:(page.take (Y/2)).length=Y/2:=by rw[eh];omega
 refine h.junk hx (by omega) (hA.take _) ?_
 rw[hl]
 have:page.take (Y/2)++aq (Y-Y/2) 255=wG page (Y/2):=by unfold wG;rw[hp]
 rw[this]
 exact SE (by omega)
theorem DV.fill{N P Y L seq v x:Nat}{bytes:Nat->List Nat}{c c':iQ}{k:Bk}(h:DV N P Y L bytes c k seq)(hv:v<N)(hfree:∀ i,i<P->k.lb (v*P+i)=-1)(hx:x=255\/x=0)
 (hb:∀ b,b<N->c'.bad b=false->∀ j,c'.next b<=j->j<P->dV (upd bytes v (aq (P*Y) x) b) (j*Y) Y=aq Y 255) (h1:sG P N c') (hn:∀ b,c'.next b<=P) :
 DV N P Y L (upd bytes v (aq (P*Y) x)) c' k seq/\∀ j,j<L->nJ P Y (upd bytes v (aq (P*Y) x)) k j=nJ P Y bytes k j:=by
 have hlt:x<256:=by omega
 have hno:¬pI (aq Y x):=by
  rcases hx with e|e
  .rw[e];exact wU
  .rw[e];exact Lu
 have hq:∀ p,p<N*P->gL P Y (upd bytes v (aq (P*Y) x)) p=if p/P=v then aq Y x else gL P Y bytes p:=λp hp=>Og (N:=N) p hp
 obtain⟨d1,d2⟩:=h.di.lose (Lp:=gL P Y (upd bytes v (aq (P*Y) x))) ⟨λp hp=>by
  rw[hq p hp];split
  .simp
  .exact h.di.pz.len p hp,λp hp=>by
  rw[hq p hp];split
  .exact BX hlt
  .exact h.di.pz.all p hp⟩ (λp hp=>by
  rw[hq p hp]
  by_cases e:p/P=v
  .rw[if_pos e];exact be hno
  .rw[if_neg e];exact bh rfl) (λl hl q e=>by
  have hqM:=(h.di.some l hl q e).1
  rw[hq q hqM]
  by_cases e2:q/P=v
  .obtain⟨p1,p2,p3⟩:=nI hqM
   have e3:=hfree (q%P) p2
   rw[<-e2,<-p3] at e3
   rcases h.inv.a l hl with e4|⟨q',_,e5,e6⟩
   .omega
   .have:q'=q:=by omega
    subst this
    omega
  .rw[if_neg e2])
 refine⟨⟨d1,h.inv,hb,h1,hn,λb hb=>?_⟩,d2⟩
 by_cases e:b=v
 .subst e;rw[upd_same];simp
 .rw[upd_ne _ _ _ _ e];exact h.len b hb
theorem DV.aen{N P Y L seq v:Nat}{bytes:Nat->List Nat}{c:iQ}{k:Bk}(h:DV N P Y L bytes c k seq)(hv:v<N)(hfree:∀ i,i<P->k.lb (v*P+i)=-1) :
 DV N P Y L (upd bytes v (aq (P*Y) 255)) (h_ c v) k seq/\∀ j,j<L->nJ P Y (upd bytes v (aq (P*Y) 255)) k j=nJ P Y bytes k j:=by
 refine h.fill hv hfree (bh rfl) (λb hb hbad j hj SG=>?_) (Ob h.one) (λb=>?_)
 .by_cases e:b=v
  .subst e
   rw[upd_same]
   exact vM (by rw[<-e_];exact cN Y SG)
  .have e2:(h_ c v).next b=c.next b:=upd_ne _ _ _ _ e
   rw[e2] at hj
   rw[upd_ne _ _ _ _ e]
   exact h.bl b hb hbad j hj SG
 .by_cases e:b=v
  .subst e
   have:(h_ c b).next b=0:=upd_same _ _ _
   omega
  .have:(h_ c v).next b=c.next b:=upd_ne _ _ _ _ e
   rw[this];exact h.nx b
theorem DV.aeo{N P Y L seq v:Nat}{bytes:Nat->List Nat}{c c':iQ}{k:Bk}(h:DV N P Y L bytes c k seq)(hv:v<N)(hF:Full P c v)(hc:∀ b,c'.next b=c.next b)(hc2:∀ b,c'.bad b=c.bad b)(hfree:∀ i,i<P->k.lb (v*P+i)=-1) :
 DV N P Y L (upd bytes v (aq (P*Y) 0)) c' k seq/\∀ j,j<L->nJ P Y (upd bytes v (aq (P*Y) 0)) k j=nJ P Y bytes k j:=by
 refine h.fill hv hfree (be rfl) (λb hb hbad j hj SG=>?_) (λi j hi hj q1 q2 q3 q4 q5 q6=>?_) (λb=>by rw[hc];exact h.nx b)
 .rw[hc] at hj
  rw[hc2] at hbad
  by_cases e:b=v
  .subst e
   have:=hF.2
   omega
  .rw[upd_ne _ _ _ _ e]
   exact h.bl b hb hbad j hj SG
 .rw[hc2] at q1 q2
  rw[hc] at q3 q4 q5 q6
  exact h.one i j hi hj q1 q2 q3 q4 q5 q6
theorem DV.fail{N P Y L seq v:Nat}{bytes:Nat->List Nat}{c:iQ}{k:Bk}(h:DV N P Y L bytes c k seq):DV N P Y L bytes (fC c v) k seq:=by
 refine⟨h.di,h.inv,λb hb hbad j hj SG=>?_,Oc h.one,h.nx,h.len⟩
 have e:c.bad b=false:=by
  by_cases e:b=v
  .subst e
   have:(fC c b).bad b=true:=upd_same _ _ _
   rw[this] at hbad;cases hbad
  .have:(fC c v).bad b=c.bad b:=upd_ne _ _ _ _ e
   rw[<-this];exact hbad
 exact h.bl b hb e j hj SG
theorem DV.frame{N P Y L seq l q:Nat}{bytes:Nat->List Nat}{c:iQ}{k:Bk}(h:DV N P Y L bytes c k seq)(hl:l<L)(hq:k.pa l=(q:Int)):q<N*P/\pI (gL P Y bytes q)/\bS (gL P Y bytes q)=l/\nJ P Y bytes k l=(if aQ (gL P Y bytes q)=1 then aT (gL P Y bytes q) else aq (Y-21) 0)/\(aQ (gL P Y bytes q)=1->(aT (gL P Y bytes q)).length+21=Y)/\(aQ (gL P Y bytes q)=2->aT (gL P Y bytes q)=[]):=by
 obtain⟨h1,h2,h3,h4⟩:=h.di.some l hl q hq
 obtain⟨g1,g2,g3,g4⟩:=h.di.ok q h1 h2
 have hlong:(aT (gL P Y bytes q)).length=aW (gL P Y bytes q):=gJ h2.1.1.d1
 refine⟨h1,h2,h3,?_,λe=>by rw[hlong];exact g3 e,λe=>?_⟩
 .unfold nJ gX
  rw[hq,if_neg (by omega),cm]
 .have:=g4 e
  exact List.eq_nil_of_length_eq_zero (by rw[hlong];exact this)
theorem EA{L M P v:Nat}{k:Bk}{l q r:Nat}(hI:Inv L M k)(hl:l<L)(hpa:k.pa l=(r:Int))(hr:r/P=v)(hq:q/P≠v)(hP:0<P)(hrq:r≠q):aZ P (jS k l q) v+1=aZ P k v:=by
 have hlb:k.lb r=(l:Int):=by
  rcases hI.a l hl with e|⟨p,_,e1,e2⟩
  .omega
  .have:p=r:=by omega
   subst this;exact e2
 have hr2:r=v*P+r%P:=by have:=im r P;rw[fL,hr] at this;omega
 unfold aZ
 have hother:∀ i,i<P->i≠r%P->(jS k l q).lb (v*P+i)=k.lb (v*P+i):=λi hi hne=>by
  have e1:v*P+i≠q:=λe=>hq (by rw[<-e];exact(div_mul hi).1)
  have e2:v*P+i≠r:=λe=>by omega
  show upd (fG k l).lb q (l:Int) (v*P+i)=_
  rw[upd_ne _ _ _ _ e1]
  show (if k.pa l=-1 then k.lb else upd k.lb (k.pa l).toNat (-1)) (v*P+i)=_
  rw[if_neg (by omega),hpa,cm,upd_ne _ _ _ _ e2]
 have hu:=Ey (f:=λi=>k.lb (v*P+i)) (g:=λi=>(jS k l q).lb (v*P+i)) (k:=r%P) P (ly _ hP) hother
 have e3:(jS k l q).lb (v*P+r%P)=-1:=by rw[<-hr2];exact Ab hI hl hpa hrq
 have e4:k.lb (v*P+r%P)=(l:Int):=by rw[<-hr2];exact hlb
 simp only[e3,e4,if_true] at hu
 rw[if_neg (by omega)] at hu
 omega

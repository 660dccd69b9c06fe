/- Part of the proof. -/
import Derived.Laws.CopyOwn
set_option linter.unusedVariables false
open Bool renaming and_eq_true->bz
open Classical renaming byContradiction->cE
open Int renaming toNat_natCast->cD
open List renaming getElem?_eq_getElem->ax,getElem_mem->mL,mem_cons->gf,replicate->aq,length_cons->ib,length_append->cm,getElem?_append_right->dE,length_take->eo,getElem?_replicate->j7,getElem?_append_left->gd,getElem?_take->e9,getElem?_drop->lL,ext_getElem?->mr,append_nil->ij
open Nat renaming le_refl->al,mul_comm->fR,add_mul->ef,one_mul->fg,succ_mul->ff,mul_le_mul_right->cP,mod_lt->ly,div_add_mod->iu
open Or renaming inl->bh,inr->a_
namespace Go.Proofs.au
variable {L P p:Nat}
def upd{α:Type}(f:Nat->α)(k:Nat)(v:α):Nat->α:=λi=>if i=k then v else f i
theorem upd_same{α:Type}(f:Nat->α)(k:Nat)(v:α):upd f k v k=v:=if_pos rfl
theorem upd_ne{α:Type}(f:Nat->α)(k i:Nat)(v:α)(h:i≠k):upd f k v i=f i:=if_neg h
structure Bk where
 pa:Nat->Int
 lb:Nat->Int
def fresh:Bk:=⟨λ_=>-1,λ_=>-1⟩
structure Inv(L P:Nat)(s:Bk):Prop where
 a:∀ l,l<L->s.pa l=-1\/∃ p:Nat,p<P/\s.pa l=(p:Int)/\s.lb p=(l:Int)
 o:∀ p,p<P->s.lb p=-1\/∃ l:Nat,l<L/\s.lb p=(l:Int)/\s.pa l=(p:Int)
theorem Ar(L P:Nat):Inv L P fresh:=⟨λ_ _=>bh rfl,λ_ _=>bh rfl⟩
def fK(s:Bk)(l:Nat):Bk:=⟨upd s.pa l (-1),if s.pa l=-1 then s.lb else upd s.lb (s.pa l).toNat (-1)⟩
theorem oz{s:Bk}(h:Inv L P s){l:Nat}(hl:l<L):Inv L P (fK s l):=by
 unfold fK
 rcases h.a l hl with e|⟨p,hp,e1,e2⟩
 .rw[if_pos e]
  refine⟨λk hk=>?_,λq hq=>?_⟩
  .by_cases hkl:k=l
   .subst hkl;left;exact upd_same _ _ _
   .rcases h.a k hk with e3|⟨p,h1,h2,h3⟩
    .left;show upd s.pa l (-1) k=-1;rw[upd_ne _ _ _ _ hkl];exact e3
    .right;exact⟨p,h1,by show upd s.pa l (-1) k=_;rw[upd_ne _ _ _ _ hkl];exact h2,h3⟩
  .rcases h.o q hq with e3|⟨k,h1,h2,h3⟩
   .exact bh e3
   .have hkl:k≠l:=by rintro rfl;omega
    right;exact⟨k,h1,h2,by show upd s.pa l (-1) k=_;rw[upd_ne _ _ _ _ hkl];exact h3⟩
 .rw[if_neg (by omega),e1,cD]
  refine⟨λk hk=>?_,λq hq=>?_⟩
  .by_cases hkl:k=l
   .subst hkl;left;exact upd_same _ _ _
   .rcases h.a k hk with e3|⟨p',h1,h2,h3⟩
    .left;show upd s.pa l (-1) k=-1;rw[upd_ne _ _ _ _ hkl];exact e3
    .have hpp:p'≠p:=by rintro rfl;omega
     right;exact⟨p',h1,by show upd s.pa l (-1) k=_;rw[upd_ne _ _ _ _ hkl];exact h2,by show upd s.lb p (-1) p'=_;rw[upd_ne _ _ _ _ hpp];exact h3⟩
  .by_cases XY:q=p
   .subst XY;left;exact upd_same _ _ _
   .rcases h.o q hq with e3|⟨k,h1,h2,h3⟩
    .left;show upd s.lb p (-1) q=-1;rw[upd_ne _ _ _ _ XY];exact e3
    .have hkl:k≠l:=by rintro rfl;omega
     right;exact⟨k,h1,by show upd s.lb p (-1) q=_;rw[upd_ne _ _ _ _ XY];exact h2,by show upd s.pa l (-1) k=_;rw[upd_ne _ _ _ _ hkl];exact h3⟩
theorem EA(s:Bk)(l:Nat):(fK s l).pa l=-1:=upd_same _ _ _
theorem J2{s:Bk}(h:Inv L P s){l:Nat}(hl:l<L)(hp:p<P)(h1:s.pa l=-1)(h2:s.lb p=-1):Inv L P ⟨upd s.pa l (p:Int),upd s.lb p (l:Int)⟩:=by
 refine⟨λk hk=>?_,λq hq=>?_⟩
 .by_cases hkl:k=l
  .subst hkl;right;exact⟨p,hp,upd_same _ _ _,upd_same _ _ _⟩
  .rcases h.a k hk with e3|⟨p',g1,g2,g3⟩
   .left;show upd s.pa l (p:Int) k=-1;rw[upd_ne _ _ _ _ hkl];exact e3
   .have hpp:p'≠p:=by rintro rfl;omega
    right;exact⟨p',g1,by show upd s.pa l (p:Int) k=_;rw[upd_ne _ _ _ _ hkl];exact g2,by show upd s.lb p (l:Int) p'=_;rw[upd_ne _ _ _ _ hpp];exact g3⟩
 .by_cases XY:q=p
  .subst XY;right;exact⟨l,hl,upd_same _ _ _,upd_same _ _ _⟩
  .rcases h.o q hq with e3|⟨k,g1,g2,g3⟩
   .left;show upd s.lb p (l:Int) q=-1;rw[upd_ne _ _ _ _ XY];exact e3
   .have hkl:k≠l:=by rintro rfl;omega
    right;exact⟨k,g1,by show upd s.lb p (l:Int) q=_;rw[upd_ne _ _ _ _ XY];exact g2,by show upd s.pa l (p:Int) k=_;rw[upd_ne _ _ _ _ hkl];exact g3⟩
theorem EB{s:Bk}(h:Inv L P s){l:Nat}(hl:l<L)(hp:p<P)(hf:s.lb p=-1\/s.lb p=(l:Int)):(fK s l).lb p=-1:=by
 unfold fK
 rcases hf with e|e
 .show (if s.pa l=-1 then s.lb else upd s.lb (s.pa l).toNat (-1)) p=-1
  split
  .exact e
  .unfold upd;split
   .rfl
   .exact e
 .rcases h.o p hp with e2|⟨k,h1,h2,h3⟩
  .omega
  .obtain rfl:k=l:=by omega
   show (if s.pa k=-1 then s.lb else upd s.lb (s.pa k).toNat (-1)) p=-1
   rw[if_neg (by omega),h3,cD,upd_same]
def sM(n:Nat)(x:Int):Bool:=decide (0<=x/\x<(n:Int))
def jU(s:Bk)(l p:Nat):Bk:=⟨upd (fK s l).pa l (p:Int),upd (fK s l).lb p (l:Int)⟩
def pJ(L P:Nat)(s:Bk)(x y:Int):Nat × Bk :=
 if sM L x=false\/sM P y=false then(1,s) else if s.lb y.toNat≠-1/\s.lb y.toNat≠x then(10,s) else(0,jU s x.toNat y.toNat)
theorem Ce{n:Nat}{x:Int}(h:sM n x=true):∃ k:Nat,x=(k:Int)/\k<n:=by
 have h:=of_decide_eq_true h
 exact⟨x.toNat,by omega,by omega⟩
theorem sW{n k:Nat}(h:k<n):sM n (k:Int)=true:=decide_eq_true ⟨by omega,by omega⟩
theorem Ie(L P:Nat)(s:Bk)(x y:Int) :
 ((sM L x=false\/sM P y=false)/\pJ L P s x y=(1,s)) \/
 ∃ l p:Nat,x=(l:Int)/\y=(p:Int)/\l<L/\p<P/\((s.lb p≠-1/\s.lb p≠(l:Int)/\pJ L P s x y=(10,s))\/((s.lb p=-1\/s.lb p=(l:Int))/\pJ L P s x y=(0,jU s l p))):=by
 unfold pJ
 by_cases h1:sM L x=false\/sM P y=false
 .exact bh ⟨h1,if_pos h1⟩
 .right
  rw[if_neg h1]
  obtain⟨l,rfl,hl⟩:=Ce (n:=L) (x:=x) (by cases h:sM L x with|true=>rfl|false=>exact absurd (bh h) h1)
  obtain⟨p,rfl,hp⟩:=Ce (n:=P) (x:=y) (by cases h:sM P y with|true=>rfl|false=>exact absurd (a_ h) h1)
  rw[cD,cD]
  refine⟨l,p,rfl,rfl,hl,hp,?_⟩
  by_cases h2:s.lb p≠-1/\s.lb p≠(l:Int)
  .exact bh ⟨h2.1,h2.2,if_pos h2⟩
  .exact a_ ⟨by omega,if_neg h2⟩
theorem EC{s:Bk}(h:Inv L P s){l:Nat}(hl:l<L)(hp:p<P)(hf:s.lb p=-1\/s.lb p=(l:Int)):Inv L P (jU s l p) :=
 J2 (oz h hl) hl hp (EA s l) (EB h hl hp hf)
theorem J3(s:Bk)(l p:Nat):(jU s l p).pa=upd s.pa l (p:Int):=by
 funext i
 show upd (upd s.pa l (-1)) l (p:Int) i=upd s.pa l (p:Int) i
 unfold upd
 split<;>rfl
theorem Au{s:Bk}(h:Inv L P s){l q:Nat}(hl:l<L)(hq:s.pa l=(q:Int))(hn:q≠p):(jU s l p).lb q=-1:=by
 show upd (fK s l).lb p (l:Int) q=-1
 rw[upd_ne _ _ _ _ hn]
 show (if s.pa l=-1 then s.lb else upd s.lb (s.pa l).toNat (-1)) q=-1
 rw[if_neg (by omega),hq,cD,upd_same]
def fu(f:Nat->Int):Nat->Nat
 |0=>0
 |k+1=>fu f k+if f k=-1 then 0 else 1
theorem Cg(f:Nat->Int):∀ k,fu f k<=k
 |0=>al _
 |k+1=>by have:=Cg f k;unfold fu;split<;>omega
def Ig(x:Nat):Nat:=if x%2=1 then(x/2) ^^^ 3988292384 else x/2
def Tj:Nat->Nat->Nat
 |0,x=>x
 |n+1,x=>Ig (Tj n x)
def OJ(s b:Nat):Nat:=Tj 8 (s ^^^ b)
def Ci(s:Nat)(l:List Nat):Nat:=l.foldl OJ s
def Av(l:List Nat):Nat:=4294967295 ^^^ Ci 4294967295 l
theorem Tk{x:Nat}(h:x<4294967296):Ig x<4294967296:=by
 unfold Ig
 split
 .exact Nat.xor_lt_two_pow (n:=32) (by omega) (by decide)
 .omega
theorem Cj{x:Nat}(h:x<4294967296):∀ n,Tj n x<4294967296
 |0=>h
 |n+1=>Tk (Cj h n)
theorem OL{a b:Nat}(ha:a<4294967296)(hb:b<4294967296):a ^^^ b<4294967296:=Nat.xor_lt_two_pow (n:=32) ha hb
theorem Tn{s b:Nat}(h:s<4294967296)(hb:b<4294967296):OJ s b<4294967296:=Cj (OL h hb) 8
def bn(l:List Nat):Prop:=∀ x∈l,x<256
theorem J4{s:Nat}(hs:s<4294967296):∀ l:List Nat,bn l->Ci s l<4294967296:=by
 intro l
 induction l generalizing s with
 |nil=>intro _;exact hs
 |cons b r ih=>intro h;exact ih (Tn hs (by have:=h b (by simp);omega)) (λx hx=>h x (by simp[hx]))
theorem LV(s:Nat)(l:List Nat)(b:Nat):Ci s (l++[b])=OJ (Ci s l) b:=by simp[Ci,List.foldl_append]
theorem bn.take{l:List Nat}(h:bn l)(k:Nat):bn (l.take k):=λx hx=>h x (List.mem_of_mem_take hx)
theorem bn.at{l:List Nat}(h:bn l)(k:Nat):l[k]?.getD 0<256:=by
 by_cases hk:k<l.length
 .rw[ax hk];exact h _ (mL _)
 .rw[List.getElem?_eq_none (by omega)];decide
theorem wV(l:List Nat)(k:Nat)(h:k<l.length):l.take (k+1)=l.take k++[l[k]?.getD 0]:=by
 rw[List.take_succ_eq_append_getElem h,ax h];rfl
theorem OM{l:List Nat}(h:bn l):Av l<4294967296:=OL (by decide) (J4 (by decide) l h)
variable {p:List Nat} {kind gN:Nat}
def low:Nat->Nat->List Nat
 |0,_=>[]
 |k+1,x=>x%256::low k (x/256)
def num:List Nat->Nat
 | []=>0
 |b::r=>b+256*num r
theorem dB:∀ k x,(low k x).length=k
 |0,_=>rfl
 |k+1,x=>by simp[low,dB k]
theorem qN:∀ k x,bn (low k x)
 |0,_=>λ_ h=>by simp[low] at h
 |k+1,x=>λy h=>by
  simp only[low,gf] at h
  rcases h with rfl|h
  .omega
  .exact qN k _ y h
theorem ED:∀ k,low k 0=aq k 0
 |0=>rfl
 |k+1=>by rw[low,ED k,List.replicate_succ]
theorem OO(k:Nat):2 ^ (8*(k+1))=256*2 ^ (8*k):=by rw[show 8*(k+1)=8+8*k by omega,Nat.pow_add]
theorem qm:∀ l,bn l->num l<2 ^ (8*l.length)
 | [],_=>by decide
 |b::r,h=>by
  have h1:=h b (by simp)
  have h2:=qm r (λx hx=>h x (by simp[hx]))
  rw[ib,OO]
  show b+256*num r<_
  omega
theorem vS:∀ k x,x<2 ^ (8*k)->num (low k x)=x
 |0,x,h=>by show 0=x;simp at h;omega
 |k+1,x,h=>by
  rw[OO] at h
  have e:=vS k (x/256) (by omega)
  show x%256+256*num (low k (x/256))=x
  rw[e];omega
theorem EF:∀ l b,num (l++[b])=num l+b*2 ^ (8*l.length)
 | [],b=>by simp[num]
 |a::r,b=>by
  show a+256*num (r++[b])=a+256*num r+_
  rw[EF r b,ib,OO,Nat.mul_left_comm]
  omega
theorem XZ(l:List Nat)(b:Nat)(h:bn l):num l ||| b*2 ^ (8*l.length)=num (l++[b]):=by
 rw[EF,Nat.or_comm,fR b,<-Nat.two_pow_add_eq_or_of_lt (qm l h)]
 omega
theorem EG:∀ k x,low (k+1) x=low k x++[x/2 ^ (8*k)%256]
 |0,x=>by simp[low]
 |k+1,x=>by
  show x%256::low (k+1) (x/256)=x%256::(low k (x/256)++_)
  rw[EG k,Nat.div_div_eq_div_mul,OO]
def mY(kind gN seq len:Nat):List Nat:=[165,kind]++(low 4 gN++(low 8 seq++low 2 len))
def vg(n:Nat)(data:List Nat):List Nat:=data++(aq (n-21-data.length) 0++[90])
def fH(n sum kind gN seq:Nat)(data:List Nat):List Nat:=mY kind gN seq data.length++(low 4 sum++vg n data)
def aR(n kind gN seq:Nat)(data:List Nat):List Nat:=fH n (Av (fH n 0 kind gN seq data)) kind gN seq data
structure Ee(n kind gN seq len:Nat):Prop where
 n0:24<=n
 n1:n<=4096
 k0:1<=kind
 k1:kind<=3
 l1:gN<=4294967295
 s1:seq<=4611686018427387904
 d1:len+21<=n
theorem lH(kind gN seq len:Nat):(mY kind gN seq len).length=16:=by simp[mY,dB]
theorem LW(n:Nat)(data:List Nat)(h:data.length+21<=n):(vg n data).length=n-20:=by simp[vg];omega
theorem LX(n sum kind gN seq:Nat)(data:List Nat)(h:data.length+21<=n):(fH n sum kind gN seq data).length=n:=by
 unfold fH
 rw[cm,cm,lH,dB,LW n data h]
 omega
theorem gQ(n kind gN seq:Nat)(data:List Nat)(h:data.length+21<=n):(aR n kind gN seq data).length=n:=LX n _ kind gN seq data h
theorem bn.app{a b:List Nat}(ha:bn a)(hb:bn b):bn (a++b):=λx hx=>by
 rcases List.mem_append.1 hx with h|h
 .exact ha x h
 .exact hb x h
theorem Aw(n sum kind gN seq:Nat)(data:List Nat)(hk:kind<256)(hd:bn data):bn (fH n sum kind gN seq data):=by
 unfold fH mY vg
 refine bn.app (bn.app (λx hx=>?_) (bn.app (qN _ _) (bn.app (qN _ _) (qN _ _)))) (bn.app (qN _ _) (bn.app hd (bn.app (λx hx=>?_) (λx hx=>?_))))
 .simp at hx;omega
 .simp at hx;omega
 .simp at hx;omega
theorem jC(n kind gN seq:Nat)(data:List Nat)(hk:kind<256)(hd:bn data):bn (aR n kind gN seq data):=Aw n _ kind gN seq data hk hd
def dX(p:List Nat)(a k:Nat):List Nat:=(p.drop a).take k
def aQ(p:List Nat):Nat:=p[1]?.getD 0
def bT(p:List Nat):Nat:=num (dX p 2 4)
def bO(p:List Nat):Nat:=num (dX p 6 8)
def aX(p:List Nat):Nat:=num (dX p 14 2)
def aV(p:List Nat):List Nat:=dX p 20 (aX p)
theorem ab4(x:Nat):low 2 x=[x%256,x/256%256]:=rfl
theorem ab5(x:Nat):low 4 x=[x%256,x/256%256,x/256/256%256,x/256/256/256%256]:=rfl
theorem ab6(x:Nat):low 8 x=[x%256,x/256%256,x/256/256%256,x/256/256/256%256,x/256/256/256/256%256,x/256/256/256/256/256%256,x/256/256/256/256/256/256%256,x/256/256/256/256/256/256/256%256]:=rfl
theorem LY(n sum kind gN seq:Nat)(data:List Nat):aQ (fH n sum kind gN seq data)=kind:=by
 simp[aQ,fH,mY]
theorem LZ(n sum kind gN seq:Nat)(data:List Nat):dX (fH n sum kind gN seq data) 2 4=low 4 gN:=by
 simp[dX,fH,mY,dB]
theorem L8(n sum kind gN seq:Nat)(data:List Nat):dX (fH n sum kind gN seq data) 6 8=low 8 seq:=by
 unfold dX fH mY
 rw[ab5,ab6,ab4]
 rfl
theorem Ih(n sum kind gN seq:Nat)(data:List Nat):dX (fH n sum kind gN seq data) 14 2=low 2 data.length:=by
 unfold dX fH mY
 rw[ab5,ab6,ab4]
 rfl
theorem L9(n sum kind gN seq:Nat)(data:List Nat):(fH n sum kind gN seq data).drop 20=vg n data:=by
 unfold fH
 rw[<-List.append_assoc,List.drop_append_of_le_length (by rw[cm,lH,dB];omega),List.drop_of_length_le (by rw[cm,lH,dB];omega),List.nil_append]
theorem nG{n seq:Nat}{data:List Nat}(h:Ee n kind gN seq data.length) :
 aQ (aR n kind gN seq data)=kind/\bT (aR n kind gN seq data)=gN/\bO (aR n kind gN seq data)=seq/\aX (aR n kind gN seq data)=data.length/\aV (aR n kind gN seq data)=data:=by
 have e4:aX (aR n kind gN seq data)=data.length:=by
  unfold aX aR
  rw[Ih]
  exact vS 2 _ (by have:=h.d1;have:=h.n1;show _<65536;omega)
 refine⟨LY ..,?_,?_,e4,?_⟩
 .unfold bT aR
  rw[LZ]
  exact vS 4 _ (by have:=h.l1;show _<4294967296;omega)
 .unfold bO aR
  rw[L8]
  exact vS 8 _ (by have:=h.s1;show _<18446744073709551616;omega)
 .unfold aV
  rw[e4]
  unfold dX aR
  rw[L9]
  unfold vg
  rw[List.take_append_of_le_length (by omega),List.take_of_length_le (by omega)]
def gy(p:List Nat):Prop:=Ee p.length (aQ p) (bT p) (bO p) (aX p)/\aR p.length (aQ p) (bT p) (bO p) (aV p)=p
theorem valid_pack{n seq:Nat}{data:List Nat}(h:Ee n kind gN seq data.length):gy (aR n kind gN seq data):=by
 obtain⟨e1,e2,e3,e4,e5⟩:=nG h
 unfold gy
 rw[e1,e2,e3,e4,e5,gQ n kind gN seq data h.d1]
 exact⟨h,rfl⟩
def dK(p:List Nat):Prop:=0<p.length/\∀ i,i<p.length->p[i]?.getD 0=255
theorem wW(n kind gN seq:Nat)(data:List Nat):(aR n kind gN seq data)[0]?.getD 0=165:=by simp[aR,fH,mY]
theorem L_{n seq:Nat}{data:List Nat}(h:data.length+21<=n):(aR n kind gN seq data)[n-1]?.getD 0=90:=by
 have e:aR n kind gN seq data=(mY kind gN seq data.length++(low 4 (Av (fH n 0 kind gN seq data))++(data++aq (n-21-data.length) 0)))++[90]:=by
  simp[aR,fH,vg]
 have hl:(mY kind gN seq data.length++(low 4 (Av (fH n 0 kind gN seq data))++(data++aq (n-21-data.length) 0))).length=n-1:=by
  simp[lH,dB];omega
 rw[e,dE (by omega),hl]
 simp
theorem nH(h:gy p):p[0]?.getD 0=165:=by
 have:=wW p.length (aQ p) (bT p) (bO p) (aV p)
 rwa [h.2] at this
theorem gT(h:aX p+21<=p.length):(aV p).length=aX p:=by
 unfold aV dX
 rw[eo,List.length_drop]
 omega
theorem Ii(h:gy p):p[p.length-1]?.getD 0=90:=by
 have:=L_ (n:=p.length) (kind:=aQ p) (gN:=bT p) (seq:=bO p) (data:=aV p) (by rw[gT h.1.d1];exact h.1.d1)
 rwa [h.2] at this
theorem Ij(h:p[0]?.getD 0=165):¬dK p:=λe=>by
 have:=e.2 0 e.1
 rw[h] at this
 cases this
def wX(p:List Nat)(k:Nat):List Nat:=p.take k++aq (p.length-k) 255
theorem Ma(p:List Nat)(k:Nat)(h:k<=p.length):(wX p k).length=p.length:=by simp[wX];omega
theorem EH{k:Nat}(h1:k<p.length):¬gy (wX p k):=by
 intro h
 have e:=Ii h
 rw[Ma p k (by omega)] at e
 unfold wX at e
 rw[dE (by rw[eo];omega),j7,if_pos (by rw[eo];omega)] at e
 cases e
variable {p:List Nat}
def iU(p:List Nat):Bool:=p.length != 0&&p.all (·==255)
theorem kS(p:List Nat):iU p=true↔dK p:=by
 unfold iU dK
 simp only[bz,bne_iff_ne,ne_eq,List.all_eq_true,beq_iff_eq]
 constructor
 .rintro ⟨h1,h2⟩
  refine⟨by omega,λi hi=>?_⟩
  rw[ax hi]
  exact h2 _ (mL hi)
 .rintro ⟨h1,h2⟩
  refine⟨by omega,λx hx=>?_⟩
  obtain⟨i,hi,rfl⟩:=List.mem_iff_getElem.1 hx
  have:=h2 i hi
  rw[ax hi] at this
  exact this
def qp(p:List Nat):Bool:=decide (24<=p.length)&&decide (p.length<=4096)&&decide (1<=aQ p)&&decide (aQ p<=3)&&decide (bT p<=4294967295)&&decide (bO p<=4611686018427387904)&&decide (aX p+21<=p.length)&&decide (aR p.length (aQ p) (bT p) (bO p) (aV p)=p)
theorem mG(p:List Nat):qp p=true↔gy p:=by
 unfold qp gy
 simp only[bz,decide_eq_true_eq]
 constructor
 .rintro ⟨⟨⟨⟨⟨⟨⟨a,b⟩,c⟩,d⟩,e⟩,f⟩,g⟩,h⟩
  exact⟨⟨a,b,c,d,e,f,g⟩,h⟩
 .rintro ⟨⟨a,b,c,d,e,f,g⟩,h⟩
  exact⟨⟨⟨⟨⟨⟨⟨a,b⟩,c⟩,d⟩,e⟩,f⟩,g⟩,h⟩
def stP(p:List Nat):Nat:=if iU p then 1 else if qp p then 2 else 3
def qO(p:List Nat):Bool:=!iU p&&qp p
def zQ(p:List Nat):Nat:=if qO p then aQ p else 0
def zS(p:List Nat):Nat:=if qO p then bT p else 0
def Ck(p:List Nat):Nat:=if qO p then bO p else 0
theorem EI(h:dK p):stP p=1/\zQ p=0/\zS p=0/\Ck p=0:=by
 have e:=(kS p).2 h
 simp[stP,zQ,zS,Ck,qO,e]
theorem Ik(h:¬dK p)(hv:gy p):stP p=2/\zQ p=aQ p/\zS p=bT p/\Ck p=bO p:=by
 have e:iU p=false:=by cases hb:iU p with|false=>rfl|true=>exact absurd ((kS p).1 hb) h
 have v:=(mG p).2 hv
 simp[stP,zQ,zS,Ck,qO,e,v]
theorem EJ(h:¬dK p)(hv:¬gy p):stP p=3/\zQ p=0/\zS p=0/\Ck p=0:=by
 have e:iU p=false:=by cases hb:iU p with|false=>rfl|true=>exact absurd ((kS p).1 hb) h
 have v:qp p=false:=by cases hb:qp p with|false=>rfl|true=>exact absurd ((mG p).1 hb) hv
 simp[stP,zQ,zS,Ck,qO,e,v]
variable {s:Bk} {L M Y q:Nat} {pa:Nat->Int} {pg:Nat->List Nat} {f g:Nat->Nat}
def pO(p:List Nat):Prop:=gy p/\(aQ p=1\/aQ p=2)
theorem Ay(p:List Nat):qO p=true↔gy p:=by
 unfold qO
 constructor
 .intro h
  simp only[bz] at h
  exact(mG p).1 h.2
 .intro h
  have h1:iU p=false:=by
   cases he:iU p with
   |false=>rfl
   |true=>exact(Ij (nH h) ((kS p).1 he)).elim
  rw[h1,(mG p).2 h]
  rfl
structure SG(M Y:Nat)(pg:Nat->List Nat):Prop where
 len:∀ p,p<M->(pg p).length=Y
 all:∀ p,p<M->bn (pg p)
structure DI(M L Y:Nat)(pg:Nat->List Nat)(pa:Nat->Int)(seq:Nat):Prop where
 pz:SG M Y pg
 none:∀ l,l<L->pa l=-1->∀ p,p<M->pO (pg p)->bT (pg p)≠l
 some:∀ l,l<L->∀ q:Nat,pa l=(q:Int)->q<M/\pO (pg q)/\bT (pg q)=l/\∀ p,p<M->p≠q->pO (pg p)->bT (pg p)=l->bO (pg p)<bO (pg q)
 ok:∀ p,p<M->pO (pg p)->bT (pg p)<L/\bO (pg p)<seq/\(aQ (pg p)=1->aX (pg p)+21=Y)/\(aQ (pg p)=2->aX (pg p)=0)
 Tp:∀ l,l<L->pa l=-1\/∃ q:Nat,pa l=(q:Int)
def fO(Y:Nat)(pg:Nat->List Nat)(pa:Nat->Int)(l:Nat):List Nat:=if pa l=-1 then aq (Y-21) 0 else if aQ (pg (pa l).toNat)=1 then aV (pg (pa l).toNat) else aq (Y-21) 0
theorem DI.start(hp:SG M Y pg)(h:∀ p,p<M->¬pO (pg p)):DI M L Y pg (λ_=>-1) 0 :=
 ⟨hp,λl _ _ p hp hc=>(h p hp hc).elim,λl _ q e=>by omega,λp hp hc=>(h p hp hc).elim,λl _=>bh rfl⟩
theorem SG.set(h:SG M Y pg){x:List Nat}(hx:x.length=Y)(ha:bn x):SG M Y (upd pg q x):=by
 refine⟨λp hp=>?_,λp hp=>?_⟩
 .unfold upd;split
  .exact hx
  .exact h.len p hp
 .unfold upd;split
  .exact ha
  .exact h.all p hp
theorem DI.junk{seq:Nat}(h:DI M L Y pg pa seq){x:List Nat}(hx:x.length=Y)(ha:bn x)(hn:¬pO x)(hq:¬pO (pg q)):DI M L Y (upd pg q x) pa seq/\∀ l,l<L->fO Y (upd pg q x) pa l=fO Y pg pa l:=by
 have hc:∀ p,pO (upd pg q x p)->p≠q/\pO (pg p):=λp hp=>by
  by_cases e:p=q
  .subst e;rw[upd_same] at hp;exact(hn hp).elim
  .rw[upd_ne _ _ _ _ e] at hp;exact⟨e,hp⟩
 refine⟨⟨h.pz.set hx ha,λl hl e p hp hcp=>?_,λl hl k e=>?_,λp hp hcp=>?_,h.Tp⟩,λl hl=>?_⟩
 .obtain⟨e1,e2⟩:=hc p hcp
  rw[upd_ne _ _ _ _ e1];exact h.none l hl e p hp e2
 .obtain⟨h1,h2,h3,h4⟩:=h.some l hl k e
  have hk:k≠q:=by rintro rfl;exact hq h2
  rw[upd_ne _ _ _ _ hk]
  refine⟨h1,h2,h3,λp hp hpk hcp hlp=>?_⟩
  obtain⟨e1,e2⟩:=hc p hcp
  rw[upd_ne _ _ _ _ e1] at hlp ⊢
  exact h4 p hp hpk e2 hlp
 .obtain⟨e1,e2⟩:=hc p hcp
  rw[upd_ne _ _ _ _ e1];exact h.ok p hp e2
 .rcases h.Tp l hl with e|⟨k,e⟩
  .unfold fO;rw[if_pos e,if_pos e]
  .have hk:k≠q:=by rintro rfl;exact hq (h.some l hl _ e).2.1
   unfold fO
   rw[e,cD,upd_ne _ _ _ _ hk]
theorem DI.put{seq kind l:Nat}{data:List Nat}(h:DI M L Y pg pa seq)(hF:Ee Y kind l seq data.length)(hk:kind=1\/kind=2)(hd1:kind=1->data.length+21=Y)(hd2:kind=2->data=[])(hA:bn data)(hl:l<L)(hq:q<M)(hn:¬pO (pg q)) :
 DI M L Y (upd pg q (aR Y kind l seq data)) (upd pa l (q:Int)) (seq+1)/\∀ k,k<L->fO Y (upd pg q (aR Y kind l seq data)) (upd pa l (q:Int)) k=if k=l then(if kind=1 then data else aq (Y-21) 0) else fO Y pg pa k:=by
 have hd:data.length+21<=Y:=hF.d1
 have hlen:(aR Y kind l seq data).length=Y:=gQ Y kind l seq data hd
 have hv:gy (aR Y kind l seq data):=valid_pack hF
 obtain⟨f1,f2,f3,f4,f5⟩:aQ (aR Y kind l seq data)=kind/\bT (aR Y kind l seq data)=l/\bO (aR Y kind l seq data)=seq/\aX (aR Y kind l seq data)=data.length/\aV (aR Y kind l seq data)=data:=nG hF
 have hcn:pO (aR Y kind l seq data):=⟨hv,by rw[f1];exact hk⟩
 generalize hX:aR Y kind l seq data=X at *
 have hXa:bn X:=by rw[<-hX];exact jC Y kind l seq data (by have:=hF.k1;omega) hA
 refine⟨⟨h.pz.set hlen hXa,λk hk e p hp hcp=>?_,λk hk r e=>?_,λp hp hcp=>?_,λk hk=>?_⟩,λk hk=>?_⟩
 .have hkl:k≠l:=by rintro rfl;rw[upd_same] at e;omega
  rw[upd_ne _ _ _ _ hkl] at e
  by_cases ep:p=q
  .subst ep;rw[upd_same,f2];exact λe'=>hkl e'.symm
  .rw[upd_ne _ _ _ _ ep] at hcp ⊢;exact h.none k hk e p hp hcp
 .by_cases hkl:k=l
  .subst hkl
   rw[upd_same] at e
   have er:r=q:=by omega
   subst er
   rw[upd_same]
   refine⟨hq,hcn,f2,λp hp hpr hcp hlp=>?_⟩
   rw[upd_ne _ _ _ _ hpr] at hcp ⊢
   rw[f3]
   exact(h.ok p hp hcp).2.1
  .rw[upd_ne _ _ _ _ hkl] at e
   obtain⟨h1,h2,h3,h4⟩:=h.some k hk r e
   have hrq:r≠q:=by rintro rfl;exact hn h2
   rw[upd_ne _ _ _ _ hrq]
   refine⟨h1,h2,h3,λp hp hpr hcp hlp=>?_⟩
   by_cases ep:p=q
   .subst ep;rw[upd_same,f2] at hlp;exact(hkl hlp.symm).elim
   .rw[upd_ne _ _ _ _ ep] at hcp hlp ⊢;exact h4 p hp hpr hcp hlp
 .by_cases ep:p=q
  .subst ep
   rw[upd_same,f1,f2,f3,f4]
   exact⟨hl,by omega,hd1,λe=>by rw[hd2 e];rfl⟩
  .rw[upd_ne _ _ _ _ ep] at hcp ⊢
   obtain⟨g1,g2,g3⟩:=h.ok p hp hcp
   exact⟨g1,by omega,g3⟩
 .by_cases hkl:k=l
  .subst hkl;right;exact⟨q,upd_same _ _ _⟩
  .rw[upd_ne _ _ _ _ hkl];exact h.Tp k hk
 .by_cases hkl:k=l
  .subst hkl
   rw[if_pos rfl]
   unfold fO
   rw[upd_same,if_neg (by omega),cD,upd_same,f1,f5]
  .rw[if_neg hkl]
   rcases h.Tp k hk with e|⟨r,e⟩
   .unfold fO;rw[upd_ne _ _ _ _ hkl,if_pos e,if_pos e]
   .have hrq:r≠q:=by rintro rfl;exact hn (h.some k hk _ e).2.1
    unfold fO
    rw[upd_ne _ _ _ _ hkl,e,cD,upd_ne _ _ _ _ hrq]
theorem DI.lose{seq:Nat}{Mc:Nat->List Nat}(h:DI M L Y pg pa seq)(hp:SG M Y Mc)(hs:∀ p,p<M->Mc p=pg p\/¬pO (Mc p))(hk:∀ l,l<L->∀ q:Nat,pa l=(q:Int)->Mc q=pg q):DI M L Y Mc pa seq/\∀ l,l<L->fO Y Mc pa l=fO Y pg pa l:=by
 have hc:∀ p,p<M->pO (Mc p)->Mc p=pg p:=λp hp hcp=>(hs p hp).elim id (λe=>(e hcp).elim)
 refine⟨⟨hp,λl hl e p hp hcp=>?_,λl hl k e=>?_,λp hp hcp=>?_,h.Tp⟩,λl hl=>?_⟩
 .have e1:=hc p hp hcp
  rw[e1] at hcp ⊢;exact h.none l hl e p hp hcp
 .obtain⟨h1,h2,h3,h4⟩:=h.some l hl k e
  rw[hk l hl k e]
  refine⟨h1,h2,h3,λp hp hpk hcp hlp=>?_⟩
  have e1:=hc p hp hcp
  rw[e1] at hcp hlp ⊢
  exact h4 p hp hpk hcp hlp
 .have e1:=hc p hp hcp
  rw[e1] at hcp ⊢;exact h.ok p hp hcp
 .rcases h.Tp l hl with e|⟨k,e⟩
  .unfold fO;rw[if_pos e,if_pos e]
  .unfold fO;rw[e,cD,hk l hl k e]
theorem DI.same{seq seq':Nat}{pa':Nat->Int}(h:DI M L Y pg pa seq)(hs:∀ p,p<M->pO (pg p)->bO (pg p)<seq')(h0:∀ l,l<L->pa' l=-1\/∃ q:Nat,pa' l=(q:Int))(hn:∀ l,l<L->pa' l=-1->∀ p,p<M->pO (pg p)->bT (pg p)≠l)
 (hb:∀ l,l<L->∀ q:Nat,pa' l=(q:Int)->q<M/\pO (pg q)/\bT (pg q)=l/\∀ p,p<M->pO (pg p)->bT (pg p)=l->bO (pg p)<=bO (pg q)):DI M L Y pg pa' seq'/\∀ l,l<L->pa' l=pa l:=by
 have key:∀ l,l<L->pa' l=pa l:=λl hl=>by
  rcases h0 l hl with e|⟨q,e⟩
  .rcases h.Tp l hl with e2|⟨q2,e2⟩
   .rw[e,e2]
   .obtain⟨g1,g2,g3,g4⟩:=h.some l hl q2 e2
    exact(hn l hl e q2 g1 g2 g3).elim
  .obtain⟨f1,f2,f3,f4⟩:=hb l hl q e
   rcases h.Tp l hl with e2|⟨q2,e2⟩
   .exact(h.none l hl e2 q f1 f2 f3).elim
   .obtain⟨g1,g2,g3,g4⟩:=h.some l hl q2 e2
    by_cases eq:q=q2
    .rw[e,e2,eq]
    .have a1:=g4 q f1 eq f2 f3
     have a2:=f4 q2 g1 g2 g3
     omega
 refine⟨⟨h.pz,λl hl e=>h.none l hl (by rw[<-key l hl];exact e),λl hl q e=>h.some l hl q (by rw[<-key l hl];exact e),λp hp hc=>?_,λl hl=>by rw[key l hl];exact h.Tp l hl⟩,key⟩
 obtain⟨g1,g2,g3⟩:=h.ok p hp hc
 exact⟨g1,hs p hp hc,g3⟩
theorem EK:∀ (L:Nat) (l:List Nat),l.Nodup->(∀ x∈l,x<L)->l.length<=L
 |0,l,_,h=>by
  cases l with
  |nil=>simp
  |cons x xs=>have:=h x (by simp);omega
 |L+1,l,hn,h=>by
  have h1:=EK L (l.filter (· != L)) (hn.filter _) (λx hx=>by
   rw[List.mem_filter] at hx
   have:=h x hx.1
   have h2:x≠L:=by simpa using hx.2
   omega)
  have h2:∀ (l:List Nat),l.Nodup->l.length<=(l.filter (· != L)).length+1:=by
   intro l
   induction l with
   |nil=>intro _;simp
   |cons x xs ih =>
    intro hn
    rw[List.nodup_cons] at hn
    by_cases e:x=L
    .subst e
     have:xs.filter (· != x)=xs:=by
      rw[List.filter_eq_self]
      intro y hy
      have:y≠x:=λe=>hn.1 (e▸hy)
      simpa using this
     simp[this]
    .have e2:(x != L)=true:=by simpa using e
     have e3:(x::xs).filter (· != L)=x::xs.filter (· != L):=by simp[e]
     rw[e3]
     have:=ih hn.2
     simp only[ib]
     omega
  have:=h2 l hn
  omega
def SH(lb:Nat->Int):Nat->List Nat
 |0=>[]
 |k+1=>if lb k=-1 then SH lb k else(lb k).toNat::SH lb k
theorem J5(lb:Nat->Int):∀ k,(SH lb k).length=fu lb k
 |0=>rfl
 |k+1=>by
  have ih:=J5 lb k
  rw[SH,fu]
  by_cases h:lb k=-1
  .rw[if_pos h,if_pos h,ih];rfl
  .rw[if_neg h,if_neg h,ib,ih]
theorem Cm{L M:Nat}{s:Bk}(h:Inv L M s):∀ k,k<=M->∀ x,x∈SH s.lb k->∃ p,p<k/\s.lb p=(x:Int)
 |0,_,x,hx=>by simp[SH] at hx
 |k+1,hk,x,hx=>by
  have ih:=Cm h k (by omega)
  rw[SH] at hx
  by_cases e:s.lb k=-1
  .rw[if_pos e] at hx
   obtain⟨p,hp,ep⟩:=ih x hx
   exact⟨p,by omega,ep⟩
  .rw[if_neg e] at hx
   rcases gf.1 hx with rfl|hx
   .rcases h.o k (by omega) with e2|⟨l,_,e2,_⟩
    .exact(e e2).elim
    .exact⟨k,by omega,by omega⟩
   .obtain⟨p,hp,ep⟩:=ih x hx
    exact⟨p,by omega,ep⟩
theorem Az{L M:Nat}{s:Bk}(h:Inv L M s):∀ k,k<=M->(SH s.lb k).Nodup
 |0,_=>by simp[SH]
 |k+1,hk=>by
  have ih:=Az h k (by omega)
  rw[SH]
  by_cases e:s.lb k=-1
  .rw[if_pos e];exact ih
  .rw[if_neg e,List.nodup_cons]
   refine⟨λhx=>?_,ih⟩
   obtain⟨p,hp,ep⟩:=Cm h k (by omega) _ hx
   rcases h.o k (by omega) with e2|⟨l,_,e2,e3⟩
   .exact e e2
   .rcases h.o p (by omega) with e4|⟨l',_,e4,e5⟩
    .omega
    .have:l'=l:=by omega
     subst this
     omega
theorem Tq(h:Inv L M s):fu s.lb M<=L:=by
 rw[<-J5]
 refine EK L _ (Az h M (al _)) (λx hx=>?_)
 obtain⟨p,hp,e⟩:=Cm h M (al _) x hx
 rcases h.o p hp with e2|⟨l,hl,e2,_⟩
 .omega
 .omega
def jv(f:Nat->Nat):Nat->Nat
 |0=>0
 |k+1=>jv f k+f k
theorem J6{f g:Nat->Nat}:∀ n,(∀ k,k<n->f k<=g k)->jv f n<=jv g n
 |0,_=>al _
 |n+1,h=>by
  have:=J6 n (λk hk=>h k (by omega))
  have:=h n (by omega)
  rw[jv,jv]
  omega
theorem wY{f g:Nat->Nat}:∀ n,(∀ k,k<n->f k=g k)->jv f n=jv g n
 |0,_=>rfl
 |n+1,h=>by rw[jv,jv,wY n (λk hk=>h k (by omega)),h n (by omega)]
theorem nI{f g:Nat->Nat}{k:Nat}:∀ n,k<n->(∀ i,i<n->i≠k->g i=f i)->jv g n+f k=jv f n+g k
 |0,h,_=>by omega
 |n+1,h,hg=>by
  rw[jv,jv]
  by_cases e:k=n
  .subst e
   have:=wY k (λi hi=>hg i (by omega) (by omega))
   omega
  .have:=nI n (by omega) (λi hi hne=>hg i (by omega) hne)
   have:=hg n (by omega) (λe'=>e e'.symm)
   omega
theorem EL(f:Nat->Int)(a:Nat):∀ b,fu f (a+b)=fu f a+fu (λi=>f (a+i)) b
 |0=>rfl
 |b+1=>by
  rw[<-Nat.add_assoc,fu,fu,EL f a b]
  omega
def aY(P:Nat)(s:Bk)(k:Nat):Nat:=fu (λi=>s.lb (k*P+i)) P
theorem EN(P:Nat)(s:Bk):∀ N,jv (aY P s) N=fu s.lb (N*P)
 |0=>by rw[Nat.zero_mul];rfl
 |N+1=>by
  rw[jv,EN P s N,ef,fg,EL]
  rfl
theorem qP(P:Nat)(s:Bk)(k:Nat):aY P s k<=P:=Cg _ _
structure oG where
 next:Nat->Nat
 bad:Nat->Bool
def dz(P:Nat)(c:oG)(k:Nat):Nat:=if c.bad k=true then 0 else P-c.next k
def aN(P N:Nat)(c:oG):Nat:=jv (dz P c) N
def cO(N:Nat)(c:oG):Nat:=jv (λk=>if c.bad k=true then 1 else 0) N
def sZ(P N:Nat)(c:oG):Prop:=∀ i k,i<N->k<N->c.bad i=false->c.bad k=false->0<c.next i->c.next i<P->0<c.next k->c.next k<P->i=k
def Full(P:Nat)(c:oG)(k:Nat):Prop:=c.bad k=false/\c.next k=P
theorem Cn{P N spare:Nat}{c:oG}(hI:Inv L (N*P) s)(hP:1<=P)(h1:sZ P N c)(hb:cO N c<=spare)(hs:spare+4<=N)(hL:L<=(N-spare-4)*P)(hn:∀ k,c.next k<=P)(hlt:aN P N c<(spare-cO N c+3)*P):∃ k,k<N/\Full P c k/\aY P s k<P:=by
 refine cE λhno=>?_
 have hfull:∀ k,k<N->Full P c k->aY P s k=P:=λk hk hF=>by
  have:=qP P s k
  rcases Nat.lt_or_ge (aY P s k) P with h|h
  .exact(hno ⟨k,hk,hF,h⟩).elim
  .omega
 -- each block is bad,or full and all live,or blank,or the one in between
 have key:∀ n,n<=N->n*P<=jv (aY P s) n+aN P n c+cO n c*P+P/\((∀ k,k<n->c.bad k=false->¬(0<c.next k/\c.next k<P))->n*P<=jv (aY P s) n+aN P n c+cO n c*P):=by
  intro n
  induction n with
  |zero=>intro _;simp[aN,cO,jv]
  |succ n ih =>
   intro hn1
   obtain⟨i1,i2⟩:=ih (by omega)
   have e1:jv (aY P s) (n+1)=jv (aY P s) n+aY P s n:=rfl
   have e2:aN P (n+1) c=aN P n c+dz P c n:=rfl
   have e3:cO (n+1) c=cO n c+(if c.bad n=true then 1 else 0):=rfl
   have e4:(n+1)*P=n*P+P:=by rw[ef,fg]
   rw[e1,e2,e3,e4]
   have hnx:=hn n
   cases hbad:c.bad n with
   |true =>
    have e5:(cO n c+1)*P=cO n c*P+P:=by rw[ef,fg]
    simp only[if_true]
    rw[e5]
    refine⟨by omega,λh=>?_⟩
    have:=i2 (λk hk=>h k (by omega))
    omega
   |false =>
    have e5:dz P c n=P-c.next n:=by unfold dz;rw[hbad];rfl
    simp only[Bool.false_eq_true,if_false,Nat.add_zero]
    rw[e5]
    by_cases hf:c.next n=P
    .have:=hfull n (by omega) ⟨hbad,hf⟩
     refine⟨by omega,λh=>?_⟩
     have:=i2 (λk hk=>h k (by omega))
     omega
    .by_cases h0:c.next n=0
     .refine⟨by omega,λh=>?_⟩
      have:=i2 (λk hk=>h k (by omega))
      omega
     ·-- the one in between: no other ahead of it
      have hnone:∀ k,k<n->c.bad k=false->¬(0<c.next k/\c.next k<P):=λk hk hbk ⟨q1,q2⟩=>by
       have:=h1 k n (by omega) (by omega) hbk hbad q1 q2 (by omega) (by omega)
       omega
      have:=i2 hnone
      refine⟨by omega,λh=>?_⟩
      exact(h n (by omega) hbad ⟨by omega,by omega⟩).elim
 obtain⟨k1,_⟩:=key N (al _)
 rw[EN] at k1
 have hlv:=Tq hI
 have e6:N*P=(N-spare-4)*P+(spare+4)*P:=by rw[<-ef];congr 1;omega
 have e7:(spare+4)*P=(spare-cO N c+3)*P+(cO N c*P+P):=by
  rw[<-ff,<-ef];congr 1;omega
 omega
variable {s:Bk} {c:oG} {L N P b k:Nat} {f:Nat->Int}
def bU(P N spare:Nat)(c:oG):Nat:=(spare-cO N c+3)*P
def Room(P N spare k:Nat)(s:Bk)(c:oG):Prop:=bU P N spare c<=aN P N c\/∃ v,v<N/\Full P c v/\aY P s v<P/\bU P N spare c<=aN P N c+(P-aY P s v)+k
theorem Room.more{spare k':Nat}(h:Room P N spare k s c)(hk:k<=k'):Room P N spare k' s c:=by
 rcases h with h|⟨v,h1,h2,h3,h4⟩
 .exact bh h
 .exact a_ ⟨v,h1,h2,h3,by omega⟩
theorem vT{spare:Nat}:3*P<=bU P N spare c:=by
 unfold bU
 rw[ef]
 omega
def dU(c:oG)(b:Nat):oG:=⟨upd c.next b (c.next b+1),c.bad⟩
theorem wZ:cO N (dU c b)=cO N c:=rfl
theorem Md{spare:Nat}:bU P N spare (dU c b)=bU P N spare c:=rfl
theorem w_(hb:b<N)(hg:c.bad b=false)(hn:c.next b<P):aN P N (dU c b)+1=aN P N c:=by
 have h:=nI (f:=dz P c) (g:=dz P (dU c b)) (k:=b) N hb (λi hi hne=>by
  unfold dz dU
  dsimp only
  rw[upd_ne _ _ _ _ hne])
 have e1:dz P c b=P-c.next b:=by unfold dz;rw[hg];rfl
 have e2:dz P (dU c b) b=P-(c.next b+1):=by
  unfold dz dU
  dsimp only
  rw[upd_same,hg];rfl
 unfold aN
 omega
theorem Me{v:Nat}(hb:c.next b<P)(hv:Full P c v):v≠b/\Full P (dU c b) v:=by
 have hne:v≠b:=by rintro rfl;have:=hv.2;omega
 refine⟨hne,hv.1,?_⟩
 show upd c.next b (c.next b+1) v=P
 rw[upd_ne _ _ _ _ hne];exact hv.2
def vL(P N:Nat)(c:oG)(b:Nat):Prop:=b<N/\c.bad b=false/\c.next b<P/\(c.next b=0->∀ i,i<N->c.bad i=false->¬(0<c.next i/\c.next i<P))
theorem OP(h:sZ P N c)(hx:vL P N c b):sZ P N (dU c b):=by
 obtain⟨h1,h2,h3,h4⟩:=hx
 have key:∀ i,i<N->c.bad i=false->0<(dU c b).next i->(dU c b).next i<P->i=b:=by
  intro i hi hbi q1 q2
  by_cases e:i=b
  .exact e
  .have e2:(dU c b).next i=c.next i:=upd_ne _ _ _ _ e
   rw[e2] at q1 q2
   by_cases h0:c.next b=0
   .exact(h4 h0 i hi hbi ⟨q1,q2⟩).elim
   .exact h i b hi h1 hbi h2 q1 q2 (by omega) h3
 intro i k hi hk hbi hbk q1 q2 q3 q4
 rw[key i hi hbi q1 q2,key k hk hbk q3 q4]
def iw(c:oG)(v:Nat):oG:=⟨upd c.next v 0,c.bad⟩
theorem xg{v:Nat}(hv:v<N)(hF:Full P c v):aN P N (iw c v)=aN P N c+P:=by
 have h:=nI (f:=dz P c) (g:=dz P (iw c v)) (k:=v) N hv (λi hi hne=>by
  unfold dz iw
  dsimp only
  rw[upd_ne _ _ _ _ hne])
 have e1:dz P c v=0:=by unfold dz;rw[hF.1,hF.2];simp
 have e2:dz P (iw c v) v=P:=by
  unfold dz iw
  dsimp only
  rw[upd_same,hF.1];rfl
 unfold aN
 omega
theorem OQ{v:Nat}(h:sZ P N c):sZ P N (iw c v):=by
 have key:∀ i,0<(iw c v).next i->i≠v/\(iw c v).next i=c.next i:=λi q=>by
  by_cases e:i=v
  .subst e
   have:(iw c i).next i=0:=upd_same _ _ _
   omega
  .exact⟨e,upd_ne _ _ _ _ e⟩
 intro i k hi hk hbi hbk q1 q2 q3 q4
 obtain⟨_,e1⟩:=key i q1
 obtain⟨_,e2⟩:=key k q3
 rw[e1] at q1 q2
 rw[e2] at q3 q4
 exact h i k hi hk hbi hbk q1 q2 q3 q4
def fE(c:oG)(v:Nat):oG:=⟨c.next,upd c.bad v true⟩
theorem xk{v:Nat}(hv:v<N)(hF:Full P c v):aN P N (fE c v)=aN P N c:=by
 have h:=nI (f:=dz P c) (g:=dz P (fE c v)) (k:=v) N hv (λi hi hne=>by
  have e:(fE c v).bad i=c.bad i:=upd_ne _ _ _ _ hne
  show (if (fE c v).bad i=true then 0 else P-c.next i)=(if c.bad i=true then 0 else P-c.next i)
  simp only[e])
 have e1:dz P c v=0:=by unfold dz;rw[hF.1,hF.2];simp
 have e2:dz P (fE c v) v=0:=by
  have e:(fE c v).bad v=true:=upd_same _ _ _
  show (if (fE c v).bad v=true then 0 else P-c.next v)=0
  simp only[e,if_true]
 unfold aN
 omega
theorem ER{v:Nat}(hv:v<N)(hg:c.bad v=false):cO N (fE c v)=cO N c+1:=by
 have h:=nI (f:=λk=>if c.bad k=true then 1 else 0) (g:=λk=>if (fE c v).bad k=true then 1 else 0) (k:=v) N hv (λi hi hne=>by
  show (if upd c.bad v true i=true then 1 else 0)=_
  rw[upd_ne _ _ _ _ hne])
 have e1:(if c.bad v=true then 1 else 0)=0:=by rw[hg];rfl
 have e2:(if (fE c v).bad v=true then 1 else 0)=1:=by
  show (if upd c.bad v true v=true then 1 else 0)=1
  rw[upd_same];rfl
 simp only[e1,e2] at h
 unfold cO
 omega
theorem OT{v:Nat}(h:sZ P N c):sZ P N (fE c v):=by
 have key:∀ i,(fE c v).bad i=false->c.bad i=false:=λi q=>by
  by_cases e:i=v
  .subst e
   have:(fE c i).bad i=true:=upd_same _ _ _
   rw[this] at q;cases q
  .have:(fE c v).bad i=c.bad i:=upd_ne _ _ _ _ e
   rw[<-this];exact q
 intro i k hi hk hbi hbk q1 q2 q3 q4
 exact h i k hi hk (key i hbi) (key k hbk) q1 q2 q3 q4
structure Fit(L P N spare:Nat):Prop where
 p1:1<=P
 n4:spare+4<=N
 l1:L<=(N-spare-4)*P
theorem xq{spare:Nat}{s s':Bk}(hF:Fit L P N spare)(hI:Inv L (N*P) s')(h1:sZ P N (dU c b))(hn:∀ k,(dU c b).next k<=P)(hb:cO N c<=spare)(hx:b<N/\c.bad b=false/\c.next b<P)(h:bU P N spare c<=aN P N c):Room P N spare 0 s' (dU c b):=by
 have e:=w_ hx.1 hx.2.1 hx.2.2
 by_cases h2:bU P N spare (dU c b)<=aN P N (dU c b)
 .exact bh h2
 .obtain⟨v,hv,hf,hl⟩:=Cn hI hF.p1 h1 (by rw[wZ];exact hb) hF.n4 hF.l1 hn (by unfold bU at h2;omega)
  refine a_ ⟨v,hv,hf,hl,?_⟩
  rw[Md]
  omega
theorem xu{L spare v:Nat}(h:Room P N spare k s c)(hs:aN P N c<bU P N spare c)(hv:v<N/\Full P c v/\aY P s v<P)(hmin:∀ u,u<N->Full P c u->aY P s u<P->aY P s v<=aY P s u):bU P N spare c<=aN P N c+(P-aY P s v)+k:=by
 rcases h with h|⟨u,h1,h2,h3,h4⟩
 .omega
 .have:=hmin u h1 h2 h3
  omega
theorem Il{spare v:Nat}(hF:Fit L P N spare)(hI:Inv L (N*P) s)(h1:sZ P N (iw c v))(hn:∀ i,(iw c v).next i<=P)(hb:cO N c<=spare)(hv:v<N/\Full P c v)(h:bU P N spare c<=aN P N c+P+k):Room P N spare k s (iw c v):=by
 have e:=xg hv.1 hv.2
 have e2:bU P N spare (iw c v)=bU P N spare c:=rfl
 by_cases h2:bU P N spare (iw c v)<=aN P N (iw c v)
 .exact bh h2
 .obtain⟨u,hu,hf,hl⟩:=Cn hI hF.p1 h1 hb hF.n4 hF.l1 hn (by unfold bU at h2;omega)
  exact a_ ⟨u,hu,hf,hl,by omega⟩
theorem ES{spare v:Nat}(hF:Fit L P N spare)(hI:Inv L (N*P) s)(h1:sZ P N (fE c v))(hn:∀ i,(fE c v).next i<=P)(hb:cO N (fE c v)<=spare)(hv:v<N/\Full P c v)(h:bU P N spare c<=aN P N c+P+k):Room P N spare k s (fE c v):=by
 have e:=xk hv.1 hv.2
 have e1:=ER hv.1 hv.2.1
 have e2:bU P N spare c=bU P N spare (fE c v)+P:=by
  unfold bU
  rw[e1,<-ff]
  congr 1
  omega
 by_cases h2:bU P N spare (fE c v)<=aN P N (fE c v)
 .exact bh h2
 .obtain⟨u,hu,hf,hl⟩:=Cn hI hF.p1 h1 hb hF.n4 hF.l1 hn (by unfold bU at h2;omega)
  exact a_ ⟨u,hu,hf,hl,by omega⟩
theorem Cq(h:0<aN P N c):∃ k,k<N/\c.bad k=false/\c.next k<P:=by
 refine cE λhno=>?_
 have:jv (dz P c) N<=jv (λ_=>0) N:=J6 N (λk hk=>by
  unfold dz
  cases hb:c.bad k with
  |true=>simp
  |false =>
   have:¬c.next k<P:=λe=>hno ⟨k,hk,hb,e⟩
   simp;omega)
 have h0:∀ n,jv (λ_=>0) n=0:=λn=>by
  induction n with
  |zero=>rfl
  |succ n ih=>rw[jv,ih]
 rw[h0] at this
 unfold aN at h
 omega
theorem EU{f g:Nat->Int}{k:Nat}:∀ n,k<n->(∀ i,i<n->i≠k->g i=f i)->fu g n+(if f k=-1 then 0 else 1)=fu f n+(if g k=-1 then 0 else 1)
 |0,h,_=>by omega
 |n+1,h,hg=>by
  rw[fu,fu]
  by_cases e:k=n
  .subst e
   have h2:∀ m,m<=k->fu g m=fu f m:=λm hm=>by
    induction m with
    |zero=>rfl
    |succ m ih=>rw[fu,fu,ih (by omega),hg m (by omega) (by omega)]
   have:=h2 k (al _)
   omega
  .have:=EU n (by omega) (λi hi hne=>hg i (by omega) hne)
   have:=hg n (by omega) (λe'=>e e'.symm)
   rw[this]
   omega
theorem xw{f g:Nat->Int}:∀ n,(∀ i,i<n->g i=f i)->fu g n=fu f n
 |0,_=>rfl
 |n+1,h=>by rw[fu,fu,xw n (λi hi=>h i (by omega)),h n (by omega)]
theorem AA{f:Nat->Int}:∀ n,(∀ i,i<n->f i=-1)->fu f n=0
 |0,_=>rfl
 |n+1,h=>by rw[fu,AA n (λi hi=>h i (by omega)),h n (by omega)];rfl
end Go.Proofs.au
namespace Go.Proofs.au
open Go.RowKit
variable {xs:List Nat} {N P Y i j k:Nat} {bytes:Nat->List Nat}
theorem AB{l:List Nat}{off:Nat}(h:off+xs.length<=l.length):(splice l off xs)[i]?=if i<off then l[i]? else if i<off+xs.length then xs[i-off]? else l[i]?:=by
 unfold splice
 have hl:(l.take off).length=off:=by simp;omega
 by_cases h1:i<off
 .rw[if_pos h1,gd (by rw[hl];exact h1),e9,if_pos h1]
 .rw[if_neg h1,dE (by rw[hl];omega),hl]
  by_cases h2:i<off+xs.length
  .rw[if_pos h2,gd (by omega)]
  .rw[if_neg h2,dE (by omega),lL]
   congr 1;omega
theorem Cr{l:List Nat}{a n:Nat}:(dX l a n)[i]?=if i<n then l[a+i]? else none:=by
 unfold dX
 rw[e9]
 split
 .rw[lL]
 .rfl
theorem OU{l:List Nat}(hx:xs.length<=Y)(hl:j*Y+Y<=l.length):dX (splice l (j*Y) xs) (j*Y) Y=xs++(dX l (j*Y) Y).drop xs.length:=by
 apply mr
 intro i
 rw[Cr,AB (by omega)]
 by_cases h1:i<xs.length
 .rw[if_pos (by omega),if_neg (by omega),if_pos (by omega),gd h1]
  congr 1;omega
 .rw[dE (by omega),lL,Cr]
  by_cases h2:i<Y
  .rw[if_pos h2,if_neg (by omega),if_neg (by omega),if_pos (by omega)]
   congr 1;omega
  .rw[if_neg h2,if_neg (by omega)]
theorem AJ{l:List Nat}(hx:xs.length<=Y)(hl:j*Y+Y<=l.length)(hij:i≠j):dX (splice l (j*Y) xs) (i*Y) Y=dX l (i*Y) Y:=by
 apply mr
 intro k
 rw[Cr,Cr]
 by_cases hk:k<Y
 .rw[if_pos hk,if_pos hk,AB (by omega)]
  rcases Nat.lt_or_gt_of_ne hij with h|h
  .have:i*Y+Y<=j*Y:=by rw[<-ff];exact cP Y h
   rw[if_pos (by omega)]
  .have:j*Y+Y<=i*Y:=by rw[<-ff];exact cP Y h
   rw[if_neg (by omega),if_neg (by omega)]
 .rw[if_neg hk,if_neg hk]
theorem vU{n v a:Nat}(h:a+k<=n):dX (aq n v) a k=aq k v:=by
 unfold dX
 rw[List.drop_replicate,List.take_replicate]
 congr 1;omega
def gu(P Y:Nat)(bytes:Nat->List Nat)(p:Nat):List Nat:=dX (bytes (p/P)) (p%P*Y) Y
theorem div_mul(h:j<P):(k*P+j)/P=k/\(k*P+j)%P=j:=by
 have hP:0<P:=by omega
 refine⟨?_,?_⟩
 .rw[fR,Nat.mul_add_div hP,Nat.div_eq_of_lt h,Nat.add_zero]
 .rw[fR,Nat.mul_add_mod,Nat.mod_eq_of_lt h]
theorem OV(h:j<P):gu P Y bytes (k*P+j)=dX (bytes k) (j*Y) Y:=by
 unfold gu
 rw[(div_mul h).1,(div_mul h).2]
theorem xE(hk:k<N)(hj:j<P):k*P+j<N*P:=by
 have:k*P+P<=N*P:=by rw[<-ff];exact cP P hk
 omega
theorem nJ{p:Nat}(hp:p<N*P):p/P<N/\p%P<P/\p=p/P*P+p%P:=by
 have hP:0<P:=by
  rcases Nat.eq_zero_or_pos P with e|e
  .rw[e,Nat.mul_zero] at hp;omega
  .exact e
 refine⟨?_,ly _ hP,?_⟩
 .rw[Nat.div_lt_iff_lt_mul hP];exact hp
 .have:=iu p P;rw[fR] at this;omega
theorem J7(hk:k<N)(hj:j<P)(hx:xs.length<=Y)(hl:(bytes k).length=P*Y):∀ p,p<N*P->gu P Y (upd bytes k (splice (bytes k) (j*Y) xs)) p=upd (gu P Y bytes) (k*P+j) (xs++(dX (bytes k) (j*Y) Y).drop xs.length) p:=by
 intro p hp
 obtain⟨h1,h2,h3⟩:=nJ hp
 have hjY:j*Y+Y<=(bytes k).length:=by rw[hl,<-ff];exact cP Y hj
 by_cases e:p=k*P+j
 .rw[e,upd_same,OV hj,upd_same]
  exact OU hx hjY
 .rw[upd_ne _ _ _ _ e]
  unfold gu
  by_cases ek:p/P=k
  .rw[ek,upd_same]
   refine AJ hx hjY (λej=>e ?_)
   rw[h3,ek,ej]
  .rw[upd_ne _ _ _ _ ek]
theorem OW{v:Nat}:∀ p,p<N*P->gu P Y (upd bytes k (aq (P*Y) v)) p=if p/P=k then aq Y v else gu P Y bytes p:=by
 intro p hp
 obtain⟨h1,h2,h3⟩:=nJ hp
 unfold gu
 by_cases ek:p/P=k
 .rw[if_pos ek,ek,upd_same]
  exact vU (by rw[<-ff];exact cP Y h2)
 .rw[if_neg ek,upd_ne _ _ _ _ ek]
theorem xQ{n:Nat}:¬pO (aq n 255):=λh=>by
 have:=nH h.1
 rw[j7] at this
 split at this<;>simp at this
theorem Mf{n:Nat}:¬pO (aq n 0):=λh=>by
 have:=nH h.1
 rw[j7] at this
 split at this<;>simp at this
theorem Tt{p:List Nat}(h:k<p.length):¬pO (wX p k):=λhc=>EH h hc.1
theorem Tv{n gN seq:Nat}{data:List Nat}(h:Ee n 3 gN seq data.length):¬pO (aR n 3 gN seq data):=λhc=>by
 have:=(nG h).1
 rcases hc.2 with e|e<;>omega
theorem Ct{n v:Nat}(h:v<256):bn (aq n v):=λx hx=>by
 rw[List.eq_of_mem_replicate hx];exact h
variable {k:Bk} {c:oG} {L N P Y b:Nat} {bytes:Nat->List Nat}
structure DV(N P Y L:Nat)(bytes:Nat->List Nat)(c:oG)(k:Bk)(seq:Nat):Prop where
 di:DI (N*P) L Y (gu P Y bytes) k.pa seq
 inv:Inv L (N*P) k
 bl:∀ b,b<N->c.bad b=false->∀ j,c.next b<=j->j<P->dX (bytes b) (j*Y) Y=aq Y 255
 one:sZ P N c
 nx:∀ b,c.next b<=P
 len:∀ b,b<N->(bytes b).length=P*Y
def nK(P Y:Nat)(bytes:Nat->List Nat)(k:Bk)(l:Nat):List Nat:=fO Y (gu P Y bytes) k.pa l
theorem DI.congr{M seq:Nat}{pg Mc:Nat->List Nat}{pa:Nat->Int}(h:DI M L Y pg pa seq)(he:∀ p,p<M->Mc p=pg p):DI M L Y Mc pa seq/\∀ l,l<L->fO Y Mc pa l=fO Y pg pa l :=
 h.lose ⟨λp hp=>by rw[he p hp];exact h.pz.len p hp,λp hp=>by rw[he p hp];exact h.pz.all p hp⟩ (λp hp=>bh (he p hp)) (λl hl q e=>he q (h.some l hl q e).1)
theorem DV.blank{seq:Nat}(h:DV N P Y L bytes c k seq)(hx:vL P N c b):¬pO (gu P Y bytes (b*P+c.next b))/\b*P+c.next b<N*P/\k.lb (b*P+c.next b)=-1:=by
 have hq:=xE hx.1 hx.2.2.1
 have hn:¬pO (gu P Y bytes (b*P+c.next b)):=by
  rw[OV hx.2.2.1,h.bl b hx.1 hx.2.1 _ (al _) hx.2.2.1]
  exact xQ
 refine⟨hn,hq,?_⟩
 rcases h.inv.o _ hq with e|⟨l,hl,e1,e2⟩
 .exact e
 .exact(hn (h.di.some l hl _ e2).2.1).elim
theorem DV.rest{seq:Nat}(h:DV N P Y L bytes c k seq)(hx:vL P N c b){xs:List Nat}(hxs:xs.length<=Y) :
 (∀ i,i<N->(dU c b).bad i=false->∀ j,(dU c b).next i<=j->j<P->dX (upd bytes b (splice (bytes b) (c.next b*Y) xs) i) (j*Y) Y=aq Y 255)/\sZ P N (dU c b)/\(∀ i,(dU c b).next i<=P)/\(∀ i,i<N->(upd bytes b (splice (bytes b) (c.next b*Y) xs) i).length=P*Y):=by
 have hY:c.next b*Y+Y<=(bytes b).length:=by rw[h.len b hx.1,<-ff];exact cP Y hx.2.2.1
 refine⟨λi hi hbi j hj Tw=>?_,OP h.one hx,λi=>?_,λi hi=>?_⟩
 .by_cases e:i=b
  .subst e
   have e2:(dU c i).next i=c.next i+1:=upd_same _ _ _
   rw[e2] at hj
   rw[upd_same,AJ hxs hY (by omega)]
   exact h.bl i hi hbi j (by omega) Tw
  .have e2:(dU c b).next i=c.next i:=upd_ne _ _ _ _ e
   rw[e2] at hj
   rw[upd_ne _ _ _ _ e]
   exact h.bl i hi hbi j hj Tw
 .by_cases e:i=b
  .subst e
   have e2:(dU c i).next i=c.next i+1:=upd_same _ _ _
   have:=hx.2.2.1
   omega
  .have e2:(dU c b).next i=c.next i:=upd_ne _ _ _ _ e
   rw[e2];exact h.nx i
 .by_cases e:i=b
  .subst e
   rw[upd_same]
   unfold splice
   rw[cm,cm,eo,List.length_drop,h.len i hi]
   rw[h.len i hi] at hY
   omega
  .rw[upd_ne _ _ _ _ e];exact h.len i hi
theorem DV.put{seq kind l:Nat}{data:List Nat}(h:DV N P Y L bytes c k seq)(hx:vL P N c b)(hF:Ee Y kind l seq data.length)(hk:kind=1\/kind=2)(hd1:kind=1->data.length+21=Y)(hd2:kind=2->data=[])(hA:bn data)(hl:l<L) :
 DV N P Y L (upd bytes b (splice (bytes b) (c.next b*Y) (aR Y kind l seq data))) (dU c b) (jU k l (b*P+c.next b)) (seq+1)/\∀ j,j<L->nK P Y (upd bytes b (splice (bytes b) (c.next b*Y) (aR Y kind l seq data))) (jU k l (b*P+c.next b)) j=if j=l then(if kind=1 then data else aq (Y-21) 0) else nK P Y bytes k j:=by
 obtain⟨hn,hq,hlb⟩:=h.blank hx
 have hlen:(aR Y kind l seq data).length=Y:=gQ Y kind l seq data hF.d1
 obtain⟨r1,r2,r3,r4⟩:=h.rest hx (xs:=aR Y kind l seq data) (by omega)
 obtain⟨d1,d2⟩:=h.di.put hF hk hd1 hd2 hA hl hq hn
 have he:∀ p,p<N*P->gu P Y (upd bytes b (splice (bytes b) (c.next b*Y) (aR Y kind l seq data))) p=upd (gu P Y bytes) (b*P+c.next b) (aR Y kind l seq data) p:=λp hp=>by
  rw[J7 hx.1 hx.2.2.1 (by omega) (h.len b hx.1) p hp]
  congr 1
  rw[List.drop_eq_nil_of_le,ij]
  unfold dX
  rw[eo]
  omega
 obtain⟨d3,d4⟩:=d1.congr he
 refine⟨⟨?_,EC h.inv hl hq (bh hlb),r1,r2,r3,r4⟩,λj hj=>?_⟩
 .rw[J3];exact d3
 .show fO Y _ (jU k l (b*P+c.next b)).pa j=_
  rw[J3,d4 j hj]
  exact d2 j hj
theorem DV.junk{seq:Nat}{xs:List Nat}(h:DV N P Y L bytes c k seq)(hx:vL P N c b)(hxs:xs.length<=Y)(hA:bn xs)(hn:¬pO (xs++aq (Y-xs.length) 255)) :
 DV N P Y L (upd bytes b (splice (bytes b) (c.next b*Y) xs)) (dU c b) k seq/\∀ j,j<L->nK P Y (upd bytes b (splice (bytes b) (c.next b*Y) xs)) k j=nK P Y bytes k j:=by
 obtain⟨hn0,hq,hlb⟩:=h.blank hx
 obtain⟨r1,r2,r3,r4⟩:=h.rest hx hxs
 have hX:xs++(dX (bytes b) (c.next b*Y) Y).drop xs.length=xs++aq (Y-xs.length) 255:=by
  rw[h.bl b hx.1 hx.2.1 _ (al _) hx.2.2.1,List.drop_replicate]
 obtain⟨d1,d2⟩:=h.di.junk (q:=b*P+c.next b) (x:=xs++aq (Y-xs.length) 255) (by simp;omega) (bn.app hA (Ct (by omega))) hn hn0
 have he:∀ p,p<N*P->gu P Y (upd bytes b (splice (bytes b) (c.next b*Y) xs)) p=upd (gu P Y bytes) (b*P+c.next b) (xs++aq (Y-xs.length) 255) p:=λp hp=>by
  rw[J7 hx.1 hx.2.2.1 hxs (h.len b hx.1) p hp,hX]
 obtain⟨d3,d4⟩:=d1.congr he
 exact⟨⟨d3,h.inv,r1,r2,r3,r4⟩,λj hj=>(d4 j hj).trans (d2 j hj)⟩
theorem DV.note{seq gN sq:Nat}{data:List Nat}(h:DV N P Y L bytes c k seq)(hx:vL P N c b)(hF:Ee Y 3 gN sq data.length)(hA:bn data) :
 DV N P Y L (upd bytes b (splice (bytes b) (c.next b*Y) (aR Y 3 gN sq data))) (dU c b) k seq/\∀ j,j<L->nK P Y (upd bytes b (splice (bytes b) (c.next b*Y) (aR Y 3 gN sq data))) k j=nK P Y bytes k j:=by
 have hlen:(aR Y 3 gN sq data).length=Y:=gQ Y 3 gN sq data hF.d1
 refine h.junk hx (by omega) (jC Y 3 gN sq data (by omega) hA) ?_
 rw[hlen,Nat.sub_self,List.replicate_zero,ij]
 exact Tv hF
theorem DV.ab7{seq:Nat}{page:List Nat}(h:DV N P Y L bytes c k seq)(hx:vL P N c b)(hp:page.length=Y)(hY:8<=Y)(hA:bn page) :
 DV N P Y L (upd bytes b (splice (bytes b) (c.next b*Y) (page.take (Y/2)))) (dU c b) k seq/\∀ j,j<L->nK P Y (upd bytes b (splice (bytes b) (c.next b*Y) (page.take (Y/2)))) k j=nK P Y bytes k j:=by
 have hl:(page.take (Y/2)).length=Y/2:=by rw[eo];omega
 refine h.junk hx (by omega) (hA.take _) ?_
 rw[hl]
 have:page.take (Y/2)++aq (Y-Y/2) 255=wX page (Y/2):=by unfold wX;rw[hp]
 rw[this]
 exact Tt (by omega)
theorem DV.fill{seq v x:Nat}{c':oG}(h:DV N P Y L bytes c k seq)(hv:v<N)(hfree:∀ i,i<P->k.lb (v*P+i)=-1)(hx:x=255\/x=0)
 (hb:∀ b,b<N->c'.bad b=false->∀ j,c'.next b<=j->j<P->dX (upd bytes v (aq (P*Y) x) b) (j*Y) Y=aq Y 255) (h1:sZ P N c') (hn:∀ b,c'.next b<=P) :
 DV N P Y L (upd bytes v (aq (P*Y) x)) c' k seq/\∀ j,j<L->nK P Y (upd bytes v (aq (P*Y) x)) k j=nK P Y bytes k j:=by
 have hlt:x<256:=by omega
 have hno:¬pO (aq Y x):=by
  rcases hx with e|e
  .rw[e];exact xQ
  .rw[e];exact Mf
 have hq:∀ p,p<N*P->gu P Y (upd bytes v (aq (P*Y) x)) p=if p/P=v then aq Y x else gu P Y bytes p:=λp hp=>OW (N:=N) p hp
 obtain⟨d1,d2⟩:=h.di.lose (Mc:=gu P Y (upd bytes v (aq (P*Y) x))) ⟨λp hp=>by
  rw[hq p hp];split
  .simp
  .exact h.di.pz.len p hp,λp hp=>by
  rw[hq p hp];split
  .exact Ct hlt
  .exact h.di.pz.all p hp⟩ (λp hp=>by
  rw[hq p hp]
  by_cases e:p/P=v
  .rw[if_pos e];exact a_ hno
  .rw[if_neg e];exact bh rfl) (λl hl q e=>by
  have hqM:=(h.di.some l hl q e).1
  rw[hq q hqM]
  by_cases e2:q/P=v
  .obtain⟨p1,p2,p3⟩:=nJ hqM
   have e3:=hfree (q%P) p2
   rw[<-e2,<-p3] at e3
   rcases h.inv.a l hl with e4|⟨q',_,e5,e6⟩
   .omega
   .have:q'=q:=by omega
    subst this
    omega
  .rw[if_neg e2])
 refine⟨⟨d1,h.inv,hb,h1,hn,λb hb=>?_⟩,d2⟩
 by_cases e:b=v
 .subst e;rw[upd_same];simp
 .rw[upd_ne _ _ _ _ e];exact h.len b hb
theorem DV.ae6{seq v:Nat}(h:DV N P Y L bytes c k seq)(hv:v<N)(hfree:∀ i,i<P->k.lb (v*P+i)=-1) :
 DV N P Y L (upd bytes v (aq (P*Y) 255)) (iw c v) k seq/\∀ j,j<L->nK P Y (upd bytes v (aq (P*Y) 255)) k j=nK P Y bytes k j:=by
 refine h.fill hv hfree (bh rfl) (λb hb hbad j hj Tw=>?_) (OQ h.one) (λb=>?_)
 .by_cases e:b=v
  .subst e
   rw[upd_same]
   exact vU (by rw[<-ff];exact cP Y Tw)
  .have e2:(iw c v).next b=c.next b:=upd_ne _ _ _ _ e
   rw[e2] at hj
   rw[upd_ne _ _ _ _ e]
   exact h.bl b hb hbad j hj Tw
 .by_cases e:b=v
  .subst e
   have:(iw c b).next b=0:=upd_same _ _ _
   omega
  .have:(iw c v).next b=c.next b:=upd_ne _ _ _ _ e
   rw[this];exact h.nx b
theorem DV.ae7{seq v:Nat}{c':oG}(h:DV N P Y L bytes c k seq)(hv:v<N)(hF:Full P c v)(hc:∀ b,c'.next b=c.next b)(hc2:∀ b,c'.bad b=c.bad b)(hfree:∀ i,i<P->k.lb (v*P+i)=-1) :
 DV N P Y L (upd bytes v (aq (P*Y) 0)) c' k seq/\∀ j,j<L->nK P Y (upd bytes v (aq (P*Y) 0)) k j=nK P Y bytes k j:=by
 refine h.fill hv hfree (a_ rfl) (λb hb hbad j hj Tw=>?_) (λi j hi hj q1 q2 q3 q4 q5 q6=>?_) (λb=>by rw[hc];exact h.nx b)
 .rw[hc] at hj
  rw[hc2] at hbad
  by_cases e:b=v
  .subst e
   have:=hF.2
   omega
  .rw[upd_ne _ _ _ _ e]
   exact h.bl b hb hbad j hj Tw
 .rw[hc2] at q1 q2
  rw[hc] at q3 q4 q5 q6
  exact h.one i j hi hj q1 q2 q3 q4 q5 q6
theorem DV.fail{seq v:Nat}(h:DV N P Y L bytes c k seq):DV N P Y L bytes (fE c v) k seq:=by
 refine⟨h.di,h.inv,λb hb hbad j hj Tw=>?_,OT h.one,h.nx,h.len⟩
 have e:c.bad b=false:=by
  by_cases e:b=v
  .subst e
   have:(fE c b).bad b=true:=upd_same _ _ _
   rw[this] at hbad;cases hbad
  .have:(fE c v).bad b=c.bad b:=upd_ne _ _ _ _ e
   rw[<-this];exact hbad
 exact h.bl b hb e j hj Tw
theorem DV.frame{seq l q:Nat}(h:DV N P Y L bytes c k seq)(hl:l<L)(hq:k.pa l=(q:Int)):q<N*P/\pO (gu P Y bytes q)/\bT (gu P Y bytes q)=l/\nK P Y bytes k l=(if aQ (gu P Y bytes q)=1 then aV (gu P Y bytes q) else aq (Y-21) 0)/\(aQ (gu P Y bytes q)=1->(aV (gu P Y bytes q)).length+21=Y)/\(aQ (gu P Y bytes q)=2->aV (gu P Y bytes q)=[]):=by
 obtain⟨h1,h2,h3,h4⟩:=h.di.some l hl q hq
 obtain⟨g1,g2,g3,g4⟩:=h.di.ok q h1 h2
 have hlong:(aV (gu P Y bytes q)).length=aX (gu P Y bytes q):=gT h2.1.1.d1
 refine⟨h1,h2,h3,?_,λe=>by rw[hlong];exact g3 e,λe=>?_⟩
 .unfold nK fO
  rw[hq,if_neg (by omega),cD]
 .have:=g4 e
  exact List.eq_nil_of_length_eq_zero (by rw[hlong];exact this)
theorem EW{M v:Nat}{l q r:Nat}(hI:Inv L M k)(hl:l<L)(hpa:k.pa l=(r:Int))(hr:r/P=v)(hq:q/P≠v)(hP:0<P)(hrq:r≠q):aY P (jU k l q) v+1=aY P k v:=by
 have hlb:k.lb r=(l:Int):=by
  rcases hI.a l hl with e|⟨p,_,e1,e2⟩
  .omega
  .have:p=r:=by omega
   subst this;exact e2
 have hr2:r=v*P+r%P:=by have:=iu r P;rw[fR,hr] at this;omega
 unfold aY
 have hother:∀ i,i<P->i≠r%P->(jU k l q).lb (v*P+i)=k.lb (v*P+i):=λi hi hne=>by
  have e1:v*P+i≠q:=λe=>hq (by rw[<-e];exact(div_mul hi).1)
  have e2:v*P+i≠r:=λe=>by omega
  show upd (fK k l).lb q (l:Int) (v*P+i)=_
  rw[upd_ne _ _ _ _ e1]
  show (if k.pa l=-1 then k.lb else upd k.lb (k.pa l).toNat (-1)) (v*P+i)=_
  rw[if_neg (by omega),hpa,cD,upd_ne _ _ _ _ e2]
 have hu:=EU (f:=λi=>k.lb (v*P+i)) (g:=λi=>(jU k l q).lb (v*P+i)) (k:=r%P) P (ly _ hP) hother
 have e3:(jU k l q).lb (v*P+r%P)=-1:=by rw[<-hr2];exact Au hI hl hpa hrq
 have e4:k.lb (v*P+r%P)=(l:Int):=by rw[<-hr2];exact hlb
 simp only[e3,e4,if_true] at hu
 rw[if_neg (by omega)] at hu
 omega

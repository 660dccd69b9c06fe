/- Part of the proof. -/
import Derived.Laws.CopyOwn
set_option linter.unusedVariables false
namespace Go.Proofs.ay
def upd{α:Type}(f:Nat->α)(k:Nat)(v:α):Nat->α:=λi=>if i=k then v else f i
theorem upd_same{α:Type}(f:Nat->α)(k:Nat)(v:α):upd f k v k=v:=if_pos rfl
theorem upd_ne{α:Type}(f:Nat->α)(k i:Nat)(v:α)(h:i≠k):upd f k v i=f i:=if_neg h
structure Bk where
 pa:Nat->Int
 lb:Nat->Int
def fresh:Bk:=⟨λ_=>-1,λ_=>-1⟩
structure Inv(L P:Nat)(s:Bk):Prop where
 a:∀ l,l<L->s.pa l=-1\/∃ p:Nat,p<P/\s.pa l=(p:Int)/\s.lb p=(l:Int)
 o:∀ p,p<P->s.lb p=-1\/∃ l:Nat,l<L/\s.lb p=(l:Int)/\s.pa l=(p:Int)
theorem wB(L P:Nat):Inv L P fresh:=⟨λ_ _=>Or.inl rfl,λ_ _=>Or.inl rfl⟩
def eB(s:Bk)(l:Nat):Bk:=⟨upd s.pa l (-1),if s.pa l=-1 then s.lb else upd s.lb (s.pa l).toNat (-1)⟩
theorem mH{L P:Nat}{s:Bk}(h:Inv L P s){l:Nat}(hl:l<L):Inv L P (eB s l):=by
 unfold eB
 rcases h.a l hl with e|⟨p,hp,e1,e2⟩
 ·rw[if_pos e]
  refine⟨λk hk=>?_,λq hq=>?_⟩
  ·by_cases hkl:k=l
   ·subst hkl;left;exact upd_same _ _ _
   ·rcases h.a k hk with e3|⟨p,h1,h2,h3⟩
    ·left;show upd s.pa l (-1) k=-1;rw[upd_ne _ _ _ _ hkl];exact e3
    ·right;exact⟨p,h1,by show upd s.pa l (-1) k=_;rw[upd_ne _ _ _ _ hkl];exact h2,h3⟩
  ·rcases h.o q hq with e3|⟨k,h1,h2,h3⟩
   ·exact Or.inl e3
   ·have hkl:k≠l:=by rintro rfl;omega
    right;exact⟨k,h1,h2,by show upd s.pa l (-1) k=_;rw[upd_ne _ _ _ _ hkl];exact h3⟩
 ·rw[if_neg (by omega),e1,Int.toNat_natCast]
  refine⟨λk hk=>?_,λq hq=>?_⟩
  ·by_cases hkl:k=l
   ·subst hkl;left;exact upd_same _ _ _
   ·rcases h.a k hk with e3|⟨p',h1,h2,h3⟩
    ·left;show upd s.pa l (-1) k=-1;rw[upd_ne _ _ _ _ hkl];exact e3
    ·have hpp:p'≠p:=by rintro rfl;omega
     right;exact⟨p',h1,by show upd s.pa l (-1) k=_;rw[upd_ne _ _ _ _ hkl];exact h2,by show upd s.lb p (-1) p'=_;rw[upd_ne _ _ _ _ hpp];exact h3⟩
  ·by_cases RH:q=p
   ·subst RH;left;exact upd_same _ _ _
   ·rcases h.o q hq with e3|⟨k,h1,h2,h3⟩
    ·left;show upd s.lb p (-1) q=-1;rw[upd_ne _ _ _ _ RH];exact e3
    ·have hkl:k≠l:=by rintro rfl;omega
     right;exact⟨k,h1,by show upd s.lb p (-1) q=_;rw[upd_ne _ _ _ _ RH];exact h2,by show upd s.pa l (-1) k=_;rw[upd_ne _ _ _ _ hkl];exact h3⟩
theorem zY(s:Bk)(l:Nat):(eB s l).pa l=-1:=upd_same _ _ _
theorem EW{L P:Nat}{s:Bk}(h:Inv L P s){l p:Nat}(hl:l<L)(hp:p<P)(h1:s.pa l=-1)(h2:s.lb p=-1):Inv L P ⟨upd s.pa l (p:Int),upd s.lb p (l:Int)⟩:=by
 refine⟨λk hk=>?_,λq hq=>?_⟩
 ·by_cases hkl:k=l
  ·subst hkl;right;exact⟨p,hp,upd_same _ _ _,upd_same _ _ _⟩
  ·rcases h.a k hk with e3|⟨p',g1,g2,g3⟩
   ·left;show upd s.pa l (p:Int) k=-1;rw[upd_ne _ _ _ _ hkl];exact e3
   ·have hpp:p'≠p:=by rintro rfl;omega
    right;exact⟨p',g1,by show upd s.pa l (p:Int) k=_;rw[upd_ne _ _ _ _ hkl];exact g2,by show upd s.lb p (l:Int) p'=_;rw[upd_ne _ _ _ _ hpp];exact g3⟩
 ·by_cases RH:q=p
  ·subst RH;right;exact⟨l,hl,upd_same _ _ _,upd_same _ _ _⟩
  ·rcases h.o q hq with e3|⟨k,g1,g2,g3⟩
   ·left;show upd s.lb p (l:Int) q=-1;rw[upd_ne _ _ _ _ RH];exact e3
   ·have hkl:k≠l:=by rintro rfl;omega
    right;exact⟨k,g1,by show upd s.lb p (l:Int) q=_;rw[upd_ne _ _ _ _ RH];exact g2,by show upd s.pa l (p:Int) k=_;rw[upd_ne _ _ _ _ hkl];exact g3⟩
theorem zZ{L P:Nat}{s:Bk}(h:Inv L P s){l p:Nat}(hl:l<L)(hp:p<P)(hf:s.lb p=-1\/s.lb p=(l:Int)):(eB s l).lb p=-1:=by
 unfold eB
 rcases hf with e|e
 ·show (if s.pa l=-1 then s.lb else upd s.lb (s.pa l).toNat (-1)) p=-1
  split
  ·exact e
  ·unfold upd;split
   ·rfl
   ·exact e
 ·rcases h.o p hp with e2|⟨k,h1,h2,h3⟩
  ·omega
  ·obtain rfl:k=l:=by omega
   show (if s.pa k=-1 then s.lb else upd s.lb (s.pa k).toNat (-1)) p=-1
   rw[if_neg (by omega),h3,Int.toNat_natCast,upd_same]
def pO(n:Nat)(x:Int):Bool:=decide (0<=x/\x<(n:Int))
def jl(s:Bk)(l p:Nat):Bk:=⟨upd (eB s l).pa l (p:Int),upd (eB s l).lb p (l:Int)⟩
def mZ(L P:Nat)(s:Bk)(x y:Int):Nat × Bk :=
 if pO L x=false\/pO P y=false then(1,s) else if s.lb y.toNat≠-1/\s.lb y.toNat≠x then(10,s) else(0,jl s x.toNat y.toNat)
theorem xW{n:Nat}{x:Int}(h:pO n x=true):∃ k:Nat,x=(k:Int)/\k<n:=by
 have h:=of_decide_eq_true h
 exact⟨x.toNat,by omega,by omega⟩
theorem pU{n k:Nat}(h:k<n):pO n (k:Int)=true:=decide_eq_true ⟨by omega,by omega⟩
theorem CZ(L P:Nat)(s:Bk)(x y:Int) :
 ((pO L x=false\/pO P y=false)/\mZ L P s x y=(1,s)) \/
 ∃ l p:Nat,x=(l:Int)/\y=(p:Int)/\l<L/\p<P/\((s.lb p≠-1/\s.lb p≠(l:Int)/\mZ L P s x y=(10,s))\/((s.lb p=-1\/s.lb p=(l:Int))/\mZ L P s x y=(0,jl s l p))):=by
 unfold mZ
 by_cases h1:pO L x=false\/pO P y=false
 ·exact Or.inl ⟨h1,if_pos h1⟩
 ·right
  rw[if_neg h1]
  obtain⟨l,rfl,hl⟩:=xW (n:=L) (x:=x) (by cases h:pO L x with|true=>rfl|false=>exact absurd (Or.inl h) h1)
  obtain⟨p,rfl,hp⟩:=xW (n:=P) (x:=y) (by cases h:pO P y with|true=>rfl|false=>exact absurd (Or.inr h) h1)
  rw[Int.toNat_natCast,Int.toNat_natCast]
  refine⟨l,p,rfl,rfl,hl,hp,?_⟩
  by_cases h2:s.lb p≠-1/\s.lb p≠(l:Int)
  ·exact Or.inl ⟨h2.1,h2.2,if_pos h2⟩
  ·exact Or.inr ⟨by omega,if_neg h2⟩
theorem z8{L P:Nat}{s:Bk}(h:Inv L P s){l p:Nat}(hl:l<L)(hp:p<P)(hf:s.lb p=-1\/s.lb p=(l:Int)):Inv L P (jl s l p) :=
 EW (mH h hl) hl hp (zY s l) (zZ h hl hp hf)
theorem EX(s:Bk)(l p:Nat):(jl s l p).pa=upd s.pa l (p:Int):=by
 funext i
 show upd (upd s.pa l (-1)) l (p:Int) i=upd s.pa l (p:Int) i
 unfold upd
 split<;>rfl
theorem wC{L P:Nat}{s:Bk}(h:Inv L P s){l p q:Nat}(hl:l<L)(hq:s.pa l=(q:Int))(hn:q≠p):(jl s l p).lb q=-1:=by
 show upd (eB s l).lb p (l:Int) q=-1
 rw[upd_ne _ _ _ _ hn]
 show (if s.pa l=-1 then s.lb else upd s.lb (s.pa l).toNat (-1)) q=-1
 rw[if_neg (by omega),hq,Int.toNat_natCast,upd_same]
def dR(f:Nat->Int):Nat->Nat
 |0=>0
 |k+1=>dR f k+if f k=-1 then 0 else 1
theorem xX(f:Nat->Int):∀ k,dR f k<=k
 |0=>Nat.le_refl _
 |k+1=>by have:=xX f k;unfold dR;split<;>omega
def C8(x:Nat):Nat:=if x%2=1 then(x/2) ^^^ 3988292384 else x/2
def Nr:Nat->Nat->Nat
 |0,x=>x
 |n+1,x=>C8 (Nr n x)
def JH(s b:Nat):Nat:=Nr 8 (s ^^^ b)
def xY(s:Nat)(l:List Nat):Nat:=l.foldl JH s
def wE(l:List Nat):Nat:=4294967295 ^^^ xY 4294967295 l
theorem Ns{x:Nat}(h:x<4294967296):C8 x<4294967296:=by
 unfold C8
 split
 ·exact Nat.xor_lt_two_pow (n:=32) (by omega) (by decide)
 ·omega
theorem xZ{x:Nat}(h:x<4294967296):∀ n,Nr n x<4294967296
 |0=>h
 |n+1=>Ns (xZ h n)
theorem JI{a b:Nat}(ha:a<4294967296)(hb:b<4294967296):a ^^^ b<4294967296:=Nat.xor_lt_two_pow (n:=32) ha hb
theorem Nt{s b:Nat}(h:s<4294967296)(hb:b<4294967296):JH s b<4294967296:=xZ (JI h hb) 8
def aW(l:List Nat):Prop:=∀ x∈l,x<256
theorem EY{s:Nat}(hs:s<4294967296):∀ l:List Nat,aW l->xY s l<4294967296:=by
 intro l
 induction l generalizing s with
 |nil=>intro _;exact hs
 |cons b r ih=>intro h;exact ih (Nt hs (by have:=h b (by simp);omega)) (λx hx=>h x (by simp[hx]))
theorem GJ(s:Nat)(l:List Nat)(b:Nat):xY s (l++[b])=JH (xY s l) b:=by simp[xY,List.foldl_append]
theorem aW.take{l:List Nat}(h:aW l)(k:Nat):aW (l.take k):=λx hx=>h x (List.mem_of_mem_take hx)
theorem aW.at{l:List Nat}(h:aW l)(k:Nat):l[k]?.getD 0<256:=by
 by_cases hk:k<l.length
 ·rw[List.getElem?_eq_getElem hk];exact h _ (List.getElem_mem _)
 ·rw[List.getElem?_eq_none (by omega)];decide
theorem sZ(l:List Nat)(k:Nat)(h:k<l.length):l.take (k+1)=l.take k++[l[k]?.getD 0]:=by
 rw[List.take_succ_eq_append_getElem h,List.getElem?_eq_getElem h];rfl
theorem JJ{l:List Nat}(h:aW l):wE l<4294967296:=JI (by decide) (EY (by decide) l h)
def low:Nat->Nat->List Nat
 |0,_=>[]
 |k+1,x=>x%256::low k (x/256)
def num:List Nat->Nat
 | []=>0
 |b::r=>b+256*num r
theorem cu:∀ k x,(low k x).length=k
 |0,_=>rfl
 |k+1,x=>by simp[low,cu k]
theorem om:∀ k x,aW (low k x)
 |0,_=>λ_ h=>by simp[low] at h
 |k+1,x=>λy h=>by
  simp only[low,List.mem_cons] at h
  rcases h with rfl|h
  ·omega
  ·exact om k _ y h
theorem z_:∀ k,low k 0=List.replicate k 0
 |0=>rfl
 |k+1=>by rw[low,z_ k,List.replicate_succ]
theorem JK(k:Nat):2 ^ (8*(k+1))=256*2 ^ (8*k):=by rw[show 8*(k+1)=8+8*k by omega,Nat.pow_add]
theorem nJ:∀ l,aW l->num l<2 ^ (8*l.length)
 | [],_=>by decide
 |b::r,h=>by
  have h1:=h b (by simp)
  have h2:=nJ r (λx hx=>h x (by simp[hx]))
  rw[List.length_cons,JK]
  show b+256*num r<_
  omega
theorem rX:∀ k x,x<2 ^ (8*k)->num (low k x)=x
 |0,x,h=>by show 0=x;simp at h;omega
 |k+1,x,h=>by
  rw[JK] at h
  have e:=rX k (x/256) (by omega)
  show x%256+256*num (low k (x/256))=x
  rw[e];omega
theorem Aa:∀ l b,num (l++[b])=num l+b*2 ^ (8*l.length)
 | [],b=>by simp[num]
 |a::r,b=>by
  show a+256*num (r++[b])=a+256*num r+_
  rw[Aa r b,List.length_cons,JK,Nat.mul_left_comm]
  omega
theorem RI(l:List Nat)(b:Nat)(h:aW l):num l ||| b*2 ^ (8*l.length)=num (l++[b]):=by
 rw[Aa,Nat.or_comm,Nat.mul_comm b,<-Nat.two_pow_add_eq_or_of_lt (nJ l h)]
 omega
theorem Ab:∀ k x,low (k+1) x=low k x++[x/2 ^ (8*k)%256]
 |0,x=>by simp[low]
 |k+1,x=>by
  show x%256::low (k+1) (x/256)=x%256::(low k (x/256)++_)
  rw[Ab k,Nat.div_div_eq_div_mul,JK]
def lq(kind cZ seq len:Nat):List Nat:=[165,kind]++(low 4 cZ++(low 8 seq++low 2 len))
def qV(n:Nat)(data:List Nat):List Nat:=data++(List.replicate (n-21-data.length) 0++[90])
def dX(n sum kind cZ seq:Nat)(data:List Nat):List Nat:=lq kind cZ seq data.length++(low 4 sum++qV n data)
def aP(n kind cZ seq:Nat)(data:List Nat):List Nat:=dX n (wE (dX n 0 kind cZ seq data)) kind cZ seq data
structure zP(n kind cZ seq len:Nat):Prop where
 n0:24<=n
 n1:n<=4096
 k0:1<=kind
 k1:kind<=3
 l1:cZ<=4294967295
 s1:seq<=4611686018427387904
 d1:len+21<=n
theorem jT(kind cZ seq len:Nat):(lq kind cZ seq len).length=16:=by simp[lq,cu]
theorem GK(n:Nat)(data:List Nat)(h:data.length+21<=n):(qV n data).length=n-20:=by simp[qV];omega
theorem GL(n sum kind cZ seq:Nat)(data:List Nat)(h:data.length+21<=n):(dX n sum kind cZ seq data).length=n:=by
 unfold dX
 rw[List.length_append,List.length_append,jT,cu,GK n data h]
 omega
theorem fJ(n kind cZ seq:Nat)(data:List Nat)(h:data.length+21<=n):(aP n kind cZ seq data).length=n:=GL n _ kind cZ seq data h
theorem aW.app{a b:List Nat}(ha:aW a)(hb:aW b):aW (a++b):=λx hx=>by
 rcases List.mem_append.1 hx with h|h
 ·exact ha x h
 ·exact hb x h
theorem wG(n sum kind cZ seq:Nat)(data:List Nat)(hk:kind<256)(hd:aW data):aW (dX n sum kind cZ seq data):=by
 unfold dX lq qV
 refine aW.app (aW.app (λx hx=>?_) (aW.app (om _ _) (aW.app (om _ _) (om _ _)))) (aW.app (om _ _) (aW.app hd (aW.app (λx hx=>?_) (λx hx=>?_))))
 ·simp at hx;omega
 ·simp at hx;omega
 ·simp at hx;omega
theorem iQ(n kind cZ seq:Nat)(data:List Nat)(hk:kind<256)(hd:aW data):aW (aP n kind cZ seq data):=wG n _ kind cZ seq data hk hd
def dN(p:List Nat)(a k:Nat):List Nat:=(p.drop a).take k
def aN(p:List Nat):Nat:=p[1]?.getD 0
def bL(p:List Nat):Nat:=num (dN p 2 4)
def bq(p:List Nat):Nat:=num (dN p 6 8)
def aU(p:List Nat):Nat:=num (dN p 14 2)
def aR(p:List Nat):List Nat:=dN p 20 (aU p)
theorem VP(x:Nat):low 2 x=[x%256,x/256%256]:=rfl
theorem VQ(x:Nat):low 4 x=[x%256,x/256%256,x/256/256%256,x/256/256/256%256]:=rfl
theorem VT(x:Nat):low 8 x=[x%256,x/256%256,x/256/256%256,x/256/256/256%256,x/256/256/256/256%256,x/256/256/256/256/256%256,x/256/256/256/256/256/256%256,x/256/256/256/256/256/256/256%256]:=rfl
theorem GN(n sum kind cZ seq:Nat)(data:List Nat):aN (dX n sum kind cZ seq data)=kind:=by
 simp[aN,dX,lq]
theorem GQ(n sum kind cZ seq:Nat)(data:List Nat):dN (dX n sum kind cZ seq data) 2 4=low 4 cZ:=by
 simp[dN,dX,lq,cu]
theorem GU(n sum kind cZ seq:Nat)(data:List Nat):dN (dX n sum kind cZ seq data) 6 8=low 8 seq:=by
 unfold dN dX lq
 rw[VQ,VT,VP]
 rfl
theorem C9(n sum kind cZ seq:Nat)(data:List Nat):dN (dX n sum kind cZ seq data) 14 2=low 2 data.length:=by
 unfold dN dX lq
 rw[VQ,VT,VP]
 rfl
theorem GV(n sum kind cZ seq:Nat)(data:List Nat):(dX n sum kind cZ seq data).drop 20=qV n data:=by
 unfold dX
 rw[<-List.append_assoc,List.drop_append_of_le_length (by rw[List.length_append,jT,cu];omega),List.drop_of_length_le (by rw[List.length_append,jT,cu];omega),List.nil_append]
theorem lI{n kind cZ seq:Nat}{data:List Nat}(h:zP n kind cZ seq data.length) :
 aN (aP n kind cZ seq data)=kind/\bL (aP n kind cZ seq data)=cZ/\bq (aP n kind cZ seq data)=seq/\aU (aP n kind cZ seq data)=data.length/\aR (aP n kind cZ seq data)=data:=by
 have e4:aU (aP n kind cZ seq data)=data.length:=by
  unfold aU aP
  rw[C9]
  exact rX 2 _ (by have:=h.d1;have:=h.n1;show _<65536;omega)
 refine⟨GN ..,?_,?_,e4,?_⟩
 ·unfold bL aP
  rw[GQ]
  exact rX 4 _ (by have:=h.l1;show _<4294967296;omega)
 ·unfold bq aP
  rw[GU]
  exact rX 8 _ (by have:=h.s1;show _<18446744073709551616;omega)
 ·unfold aR
  rw[e4]
  unfold dN aP
  rw[GV]
  unfold qV
  rw[List.take_append_of_le_length (by omega),List.take_of_length_le (by omega)]
def fC(p:List Nat):Prop:=zP p.length (aN p) (bL p) (bq p) (aU p)/\aP p.length (aN p) (bL p) (bq p) (aR p)=p
theorem valid_pack{n kind cZ seq:Nat}{data:List Nat}(h:zP n kind cZ seq data.length):fC (aP n kind cZ seq data):=by
 obtain⟨e1,e2,e3,e4,e5⟩:=lI h
 unfold fC
 rw[e1,e2,e3,e4,e5,fJ n kind cZ seq data h.d1]
 exact⟨h,rfl⟩
def dx(p:List Nat):Prop:=0<p.length/\∀ i,i<p.length->p[i]?.getD 0=255
theorem tq(n kind cZ seq:Nat)(data:List Nat):(aP n kind cZ seq data)[0]?.getD 0=165:=by simp[aP,dX,lq]
theorem GX{n kind cZ seq:Nat}{data:List Nat}(h:data.length+21<=n):(aP n kind cZ seq data)[n-1]?.getD 0=90:=by
 have e:aP n kind cZ seq data=(lq kind cZ seq data.length++(low 4 (wE (dX n 0 kind cZ seq data))++(data++List.replicate (n-21-data.length) 0)))++[90]:=by
  simp[aP,dX,qV]
 have hl:(lq kind cZ seq data.length++(low 4 (wE (dX n 0 kind cZ seq data))++(data++List.replicate (n-21-data.length) 0))).length=n-1:=by
  simp[jT,cu];omega
 rw[e,List.getElem?_append_right (by omega),hl]
 simp
theorem lJ{p:List Nat}(h:fC p):p[0]?.getD 0=165:=by
 have:=tq p.length (aN p) (bL p) (bq p) (aR p)
 rwa [h.2] at this
theorem fK{p:List Nat}(h:aU p+21<=p.length):(aR p).length=aU p:=by
 unfold aR dN
 rw[List.length_take,List.length_drop]
 omega
theorem C_{p:List Nat}(h:fC p):p[p.length-1]?.getD 0=90:=by
 have:=GX (n:=p.length) (kind:=aN p) (cZ:=bL p) (seq:=bq p) (data:=aR p) (by rw[fK h.1.d1];exact h.1.d1)
 rwa [h.2] at this
theorem Da{p:List Nat}(h:p[0]?.getD 0=165):¬dx p:=λe=>by
 have:=e.2 0 e.1
 rw[h] at this
 cases this
def tu(p:List Nat)(k:Nat):List Nat:=p.take k++List.replicate (p.length-k) 255
theorem GY(p:List Nat)(k:Nat)(h:k<=p.length):(tu p k).length=p.length:=by simp[tu];omega
theorem Ac{p:List Nat}{k:Nat}(h1:k<p.length):¬fC (tu p k):=by
 intro h
 have e:=C_ h
 rw[GY p k (by omega)] at e
 unfold tu at e
 rw[List.getElem?_append_right (by rw[List.length_take];omega),List.getElem?_replicate,if_pos (by rw[List.length_take];omega)] at e
 cases e
def gU(p:List Nat):Bool:=p.length != 0&&p.all (·==255)
theorem jI(p:List Nat):gU p=true↔dx p:=by
 unfold gU dx
 simp only[Bool.and_eq_true,bne_iff_ne,ne_eq,List.all_eq_true,beq_iff_eq]
 constructor
 ·rintro ⟨h1,h2⟩
  refine⟨by omega,λi hi=>?_⟩
  rw[List.getElem?_eq_getElem hi]
  exact h2 _ (List.getElem_mem hi)
 ·rintro ⟨h1,h2⟩
  refine⟨by omega,λx hx=>?_⟩
  obtain⟨i,hi,rfl⟩:=List.mem_iff_getElem.1 hx
  have:=h2 i hi
  rw[List.getElem?_eq_getElem hi] at this
  exact this
def nK(p:List Nat):Bool:=decide (24<=p.length)&&decide (p.length<=4096)&&decide (1<=aN p)&&decide (aN p<=3)&&decide (bL p<=4294967295)&&decide (bq p<=4611686018427387904)&&decide (aU p+21<=p.length)&&decide (aP p.length (aN p) (bL p) (bq p) (aR p)=p)
theorem kN(p:List Nat):nK p=true↔fC p:=by
 unfold nK fC
 simp only[Bool.and_eq_true,decide_eq_true_eq]
 constructor
 ·rintro ⟨⟨⟨⟨⟨⟨⟨a,b⟩,c⟩,d⟩,e⟩,f⟩,g⟩,h⟩
  exact⟨⟨a,b,c,d,e,f,g⟩,h⟩
 ·rintro ⟨⟨a,b,c,d,e,f,g⟩,h⟩
  exact⟨⟨⟨⟨⟨⟨⟨a,b⟩,c⟩,d⟩,e⟩,f⟩,g⟩,h⟩
def stP(p:List Nat):Nat:=if gU p then 1 else if nK p then 2 else 3
def oq(p:List Nat):Bool:=!gU p&&nK p
def vF(p:List Nat):Nat:=if oq p then aN p else 0
def vG(p:List Nat):Nat:=if oq p then bL p else 0
def x9(p:List Nat):Nat:=if oq p then bq p else 0
theorem Ae{p:List Nat}(h:dx p):stP p=1/\vF p=0/\vG p=0/\x9 p=0:=by
 have e:=(jI p).2 h
 simp[stP,vF,vG,x9,oq,e]
theorem Db{p:List Nat}(h:¬dx p)(hv:fC p):stP p=2/\vF p=aN p/\vG p=bL p/\x9 p=bq p:=by
 have e:gU p=false:=by cases hb:gU p with|false=>rfl|true=>exact absurd ((jI p).1 hb) h
 have v:=(kN p).2 hv
 simp[stP,vF,vG,x9,oq,e,v]
theorem Af{p:List Nat}(h:¬dx p)(hv:¬fC p):stP p=3/\vF p=0/\vG p=0/\x9 p=0:=by
 have e:gU p=false:=by cases hb:gU p with|false=>rfl|true=>exact absurd ((jI p).1 hb) h
 have v:nK p=false:=by cases hb:nK p with|false=>rfl|true=>exact absurd ((kN p).1 hb) hv
 simp[stP,vF,vG,x9,oq,e,v]
def m_(p:List Nat):Prop:=fC p/\(aN p=1\/aN p=2)
theorem wJ(p:List Nat):oq p=true↔fC p:=by
 unfold oq
 constructor
 ·intro h
  simp only[Bool.and_eq_true] at h
  exact(kN p).1 h.2
 ·intro h
  have h1:gU p=false:=by
   cases he:gU p with
   |false=>rfl
   |true=>exact(Da (lJ h) ((jI p).1 he)).elim
  rw[h1,(kN p).2 h]
  rfl
structure Nk(M Y:Nat)(pg:Nat->List Nat):Prop where
 len:∀ p,p<M->(pg p).length=Y
 all:∀ p,p<M->aW (pg p)
structure DI(M L Y:Nat)(pg:Nat->List Nat)(pa:Nat->Int)(seq:Nat):Prop where
 pz:Nk M Y pg
 none:∀ l,l<L->pa l=-1->∀ p,p<M->m_ (pg p)->bL (pg p)≠l
 some:∀ l,l<L->∀ q:Nat,pa l=(q:Int)->q<M/\m_ (pg q)/\bL (pg q)=l/\∀ p,p<M->p≠q->m_ (pg p)->bL (pg p)=l->bq (pg p)<bq (pg q)
 ok:∀ p,p<M->m_ (pg p)->bL (pg p)<L/\bq (pg p)<seq/\(aN (pg p)=1->aU (pg p)+21=Y)/\(aN (pg p)=2->aU (pg p)=0)
 Nu:∀ l,l<L->pa l=-1\/∃ q:Nat,pa l=(q:Int)
def eP(Y:Nat)(pg:Nat->List Nat)(pa:Nat->Int)(l:Nat):List Nat:=if pa l=-1 then List.replicate (Y-21) 0 else if aN (pg (pa l).toNat)=1 then aR (pg (pa l).toNat) else List.replicate (Y-21) 0
theorem DI.start{M L Y:Nat}{pg:Nat->List Nat}(hp:Nk M Y pg)(h:∀ p,p<M->¬m_ (pg p)):DI M L Y pg (λ_=>-1) 0 :=
 ⟨hp,λl _ _ p hp hc=>(h p hp hc).elim,λl _ q e=>by omega,λp hp hc=>(h p hp hc).elim,λl _=>Or.inl rfl⟩
theorem Nk.set{M Y:Nat}{pg:Nat->List Nat}(h:Nk M Y pg){q:Nat}{x:List Nat}(hx:x.length=Y)(ha:aW x):Nk M Y (upd pg q x):=by
 refine⟨λp hp=>?_,λp hp=>?_⟩
 ·unfold upd;split
  ·exact hx
  ·exact h.len p hp
 ·unfold upd;split
  ·exact ha
  ·exact h.all p hp
theorem DI.junk{M L Y seq:Nat}{pg:Nat->List Nat}{pa:Nat->Int}(h:DI M L Y pg pa seq){q:Nat}{x:List Nat}(hx:x.length=Y)(ha:aW x)(hn:¬m_ x)(hq:¬m_ (pg q)):DI M L Y (upd pg q x) pa seq/\∀ l,l<L->eP Y (upd pg q x) pa l=eP Y pg pa l:=by
 have hc:∀ p,m_ (upd pg q x p)->p≠q/\m_ (pg p):=λp hp=>by
  by_cases e:p=q
  ·subst e;rw[upd_same] at hp;exact(hn hp).elim
  ·rw[upd_ne _ _ _ _ e] at hp;exact⟨e,hp⟩
 refine⟨⟨h.pz.set hx ha,λl hl e p hp hcp=>?_,λl hl k e=>?_,λp hp hcp=>?_,h.Nu⟩,λl hl=>?_⟩
 ·obtain⟨e1,e2⟩:=hc p hcp
  rw[upd_ne _ _ _ _ e1];exact h.none l hl e p hp e2
 ·obtain⟨h1,h2,h3,h4⟩:=h.some l hl k e
  have hk:k≠q:=by rintro rfl;exact hq h2
  rw[upd_ne _ _ _ _ hk]
  refine⟨h1,h2,h3,λp hp hpk hcp hlp=>?_⟩
  obtain⟨e1,e2⟩:=hc p hcp
  rw[upd_ne _ _ _ _ e1] at hlp ⊢
  exact h4 p hp hpk e2 hlp
 ·obtain⟨e1,e2⟩:=hc p hcp
  rw[upd_ne _ _ _ _ e1];exact h.ok p hp e2
 ·rcases h.Nu l hl with e|⟨k,e⟩
  ·unfold eP;rw[if_pos e,if_pos e]
  ·have hk:k≠q:=by rintro rfl;exact hq (h.some l hl _ e).2.1
   unfold eP
   rw[e,Int.toNat_natCast,upd_ne _ _ _ _ hk]
theorem DI.put{M L Y seq kind l q:Nat}{pg:Nat->List Nat}{pa:Nat->Int}{data:List Nat}(h:DI M L Y pg pa seq)(hF:zP Y kind l seq data.length)(hk:kind=1\/kind=2)(hd1:kind=1->data.length+21=Y)(hd2:kind=2->data=[])(hA:aW data)(hl:l<L)(hq:q<M)(hn:¬m_ (pg q)) :
 DI M L Y (upd pg q (aP Y kind l seq data)) (upd pa l (q:Int)) (seq+1)/\∀ k,k<L->eP Y (upd pg q (aP Y kind l seq data)) (upd pa l (q:Int)) k=if k=l then(if kind=1 then data else List.replicate (Y-21) 0) else eP Y pg pa k:=by
 have hd:data.length+21<=Y:=hF.d1
 have hlen:(aP Y kind l seq data).length=Y:=fJ Y kind l seq data hd
 have hv:fC (aP Y kind l seq data):=valid_pack hF
 obtain⟨f1,f2,f3,f4,f5⟩:aN (aP Y kind l seq data)=kind/\bL (aP Y kind l seq data)=l/\bq (aP Y kind l seq data)=seq/\aU (aP Y kind l seq data)=data.length/\aR (aP Y kind l seq data)=data:=lI hF
 have hcn:m_ (aP Y kind l seq data):=⟨hv,by rw[f1];exact hk⟩
 generalize hX:aP Y kind l seq data=X at *
 have hXa:aW X:=by rw[<-hX];exact iQ Y kind l seq data (by have:=hF.k1;omega) hA
 refine⟨⟨h.pz.set hlen hXa,λk hk e p hp hcp=>?_,λk hk r e=>?_,λp hp hcp=>?_,λk hk=>?_⟩,λk hk=>?_⟩
 ·have hkl:k≠l:=by rintro rfl;rw[upd_same] at e;omega
  rw[upd_ne _ _ _ _ hkl] at e
  by_cases ep:p=q
  ·subst ep;rw[upd_same,f2];exact λe'=>hkl e'.symm
  ·rw[upd_ne _ _ _ _ ep] at hcp ⊢;exact h.none k hk e p hp hcp
 ·by_cases hkl:k=l
  ·subst hkl
   rw[upd_same] at e
   have er:r=q:=by omega
   subst er
   rw[upd_same]
   refine⟨hq,hcn,f2,λp hp hpr hcp hlp=>?_⟩
   rw[upd_ne _ _ _ _ hpr] at hcp ⊢
   rw[f3]
   exact(h.ok p hp hcp).2.1
  ·rw[upd_ne _ _ _ _ hkl] at e
   obtain⟨h1,h2,h3,h4⟩:=h.some k hk r e
   have hrq:r≠q:=by rintro rfl;exact hn h2
   rw[upd_ne _ _ _ _ hrq]
   refine⟨h1,h2,h3,λp hp hpr hcp hlp=>?_⟩
   by_cases ep:p=q
   ·subst ep;rw[upd_same,f2] at hlp;exact(hkl hlp.symm).elim
   ·rw[upd_ne _ _ _ _ ep] at hcp hlp ⊢;exact h4 p hp hpr hcp hlp
 ·by_cases ep:p=q
  ·subst ep
   rw[upd_same,f1,f2,f3,f4]
   exact⟨hl,by omega,hd1,λe=>by rw[hd2 e];rfl⟩
  ·rw[upd_ne _ _ _ _ ep] at hcp ⊢
   obtain⟨g1,g2,g3⟩:=h.ok p hp hcp
   exact⟨g1,by omega,g3⟩
 ·by_cases hkl:k=l
  ·subst hkl;right;exact⟨q,upd_same _ _ _⟩
  ·rw[upd_ne _ _ _ _ hkl];exact h.Nu k hk
 ·by_cases hkl:k=l
  ·subst hkl
   rw[if_pos rfl]
   unfold eP
   rw[upd_same,if_neg (by omega),Int.toNat_natCast,upd_same,f1,f5]
  ·rw[if_neg hkl]
   rcases h.Nu k hk with e|⟨r,e⟩
   ·unfold eP;rw[upd_ne _ _ _ _ hkl,if_pos e,if_pos e]
   ·have hrq:r≠q:=by rintro rfl;exact hn (h.some k hk _ e).2.1
    unfold eP
    rw[upd_ne _ _ _ _ hkl,e,Int.toNat_natCast,upd_ne _ _ _ _ hrq]
theorem DI.lose{M L Y seq:Nat}{pg GZ:Nat->List Nat}{pa:Nat->Int}(h:DI M L Y pg pa seq)(hp:Nk M Y GZ)(hs:∀ p,p<M->GZ p=pg p\/¬m_ (GZ p))(hk:∀ l,l<L->∀ q:Nat,pa l=(q:Int)->GZ q=pg q):DI M L Y GZ pa seq/\∀ l,l<L->eP Y GZ pa l=eP Y pg pa l:=by
 have hc:∀ p,p<M->m_ (GZ p)->GZ p=pg p:=λp hp hcp=>(hs p hp).elim id (λe=>(e hcp).elim)
 refine⟨⟨hp,λl hl e p hp hcp=>?_,λl hl k e=>?_,λp hp hcp=>?_,h.Nu⟩,λl hl=>?_⟩
 ·have e1:=hc p hp hcp
  rw[e1] at hcp ⊢;exact h.none l hl e p hp hcp
 ·obtain⟨h1,h2,h3,h4⟩:=h.some l hl k e
  rw[hk l hl k e]
  refine⟨h1,h2,h3,λp hp hpk hcp hlp=>?_⟩
  have e1:=hc p hp hcp
  rw[e1] at hcp hlp ⊢
  exact h4 p hp hpk hcp hlp
 ·have e1:=hc p hp hcp
  rw[e1] at hcp ⊢;exact h.ok p hp hcp
 ·rcases h.Nu l hl with e|⟨k,e⟩
  ·unfold eP;rw[if_pos e,if_pos e]
  ·unfold eP;rw[e,Int.toNat_natCast,hk l hl k e]
theorem DI.same{M L Y seq seq':Nat}{pg:Nat->List Nat}{pa pa':Nat->Int}(h:DI M L Y pg pa seq)(hs:∀ p,p<M->m_ (pg p)->bq (pg p)<seq')(h0:∀ l,l<L->pa' l=-1\/∃ q:Nat,pa' l=(q:Int))(hn:∀ l,l<L->pa' l=-1->∀ p,p<M->m_ (pg p)->bL (pg p)≠l)
 (hb:∀ l,l<L->∀ q:Nat,pa' l=(q:Int)->q<M/\m_ (pg q)/\bL (pg q)=l/\∀ p,p<M->m_ (pg p)->bL (pg p)=l->bq (pg p)<=bq (pg q)):DI M L Y pg pa' seq'/\∀ l,l<L->pa' l=pa l:=by
 have key:∀ l,l<L->pa' l=pa l:=λl hl=>by
  rcases h0 l hl with e|⟨q,e⟩
  ·rcases h.Nu l hl with e2|⟨q2,e2⟩
   ·rw[e,e2]
   ·obtain⟨g1,g2,g3,g4⟩:=h.some l hl q2 e2
    exact(hn l hl e q2 g1 g2 g3).elim
  ·obtain⟨f1,f2,f3,f4⟩:=hb l hl q e
   rcases h.Nu l hl with e2|⟨q2,e2⟩
   ·exact(h.none l hl e2 q f1 f2 f3).elim
   ·obtain⟨g1,g2,g3,g4⟩:=h.some l hl q2 e2
    by_cases eq:q=q2
    ·rw[e,e2,eq]
    ·have a1:=g4 q f1 eq f2 f3
     have a2:=f4 q2 g1 g2 g3
     omega
 refine⟨⟨h.pz,λl hl e=>h.none l hl (by rw[<-key l hl];exact e),λl hl q e=>h.some l hl q (by rw[<-key l hl];exact e),λp hp hc=>?_,λl hl=>by rw[key l hl];exact h.Nu l hl⟩,key⟩
 obtain⟨g1,g2,g3⟩:=h.ok p hp hc
 exact⟨g1,hs p hp hc,g3⟩
theorem Ag:∀ (L:Nat) (l:List Nat),l.Nodup->(∀ x∈l,x<L)->l.length<=L
 |0,l,_,h=>by
  cases l with
  |nil=>simp
  |cons x xs=>have:=h x (by simp);omega
 |L+1,l,hn,h=>by
  have h1:=Ag L (l.filter (· != L)) (hn.filter _) (λx hx=>by
   rw[List.mem_filter] at hx
   have:=h x hx.1
   have h2:x≠L:=by simpa using hx.2
   omega)
  have h2:∀ (l:List Nat),l.Nodup->l.length<=(l.filter (· != L)).length+1:=by
   intro l
   induction l with
   |nil=>intro _;simp
   |cons x xs ih =>
    intro hn
    rw[List.nodup_cons] at hn
    by_cases e:x=L
    ·subst e
     have:xs.filter (· != x)=xs:=by
      rw[List.filter_eq_self]
      intro y hy
      have:y≠x:=λe=>hn.1 (e▸hy)
      simpa using this
     simp[this]
    ·have e2:(x != L)=true:=by simpa using e
     have e3:(x::xs).filter (· != L)=x::xs.filter (· != L):=by simp[e]
     rw[e3]
     have:=ih hn.2
     simp only[List.length_cons]
     omega
  have:=h2 l hn
  omega
def Nl(lb:Nat->Int):Nat->List Nat
 |0=>[]
 |k+1=>if lb k=-1 then Nl lb k else(lb k).toNat::Nl lb k
theorem EZ(lb:Nat->Int):∀ k,(Nl lb k).length=dR lb k
 |0=>rfl
 |k+1=>by
  have ih:=EZ lb k
  rw[Nl,dR]
  by_cases h:lb k=-1
  ·rw[if_pos h,if_pos h,ih];rfl
  ·rw[if_neg h,if_neg h,List.length_cons,ih]
theorem yc{L M:Nat}{s:Bk}(h:Inv L M s):∀ k,k<=M->∀ x,x∈Nl s.lb k->∃ p,p<k/\s.lb p=(x:Int)
 |0,_,x,hx=>by simp[Nl] at hx
 |k+1,hk,x,hx=>by
  have ih:=yc h k (by omega)
  rw[Nl] at hx
  by_cases e:s.lb k=-1
  ·rw[if_pos e] at hx
   obtain⟨p,hp,ep⟩:=ih x hx
   exact⟨p,by omega,ep⟩
  ·rw[if_neg e] at hx
   rcases List.mem_cons.1 hx with rfl|hx
   ·rcases h.o k (by omega) with e2|⟨l,_,e2,_⟩
    ·exact(e e2).elim
    ·exact⟨k,by omega,by omega⟩
   ·obtain⟨p,hp,ep⟩:=ih x hx
    exact⟨p,by omega,ep⟩
theorem wK{L M:Nat}{s:Bk}(h:Inv L M s):∀ k,k<=M->(Nl s.lb k).Nodup
 |0,_=>by simp[Nl]
 |k+1,hk=>by
  have ih:=wK h k (by omega)
  rw[Nl]
  by_cases e:s.lb k=-1
  ·rw[if_pos e];exact ih
  ·rw[if_neg e,List.nodup_cons]
   refine⟨λhx=>?_,ih⟩
   obtain⟨p,hp,ep⟩:=yc h k (by omega) _ hx
   rcases h.o k (by omega) with e2|⟨l,_,e2,e3⟩
   ·exact e e2
   ·rcases h.o p (by omega) with e4|⟨l',_,e4,e5⟩
    ·omega
    ·have:l'=l:=by omega
     subst this
     omega
theorem Nv{L M:Nat}{s:Bk}(h:Inv L M s):dR s.lb M<=L:=by
 rw[<-EZ]
 refine Ag L _ (wK h M (Nat.le_refl _)) (λx hx=>?_)
 obtain⟨p,hp,e⟩:=yc h M (Nat.le_refl _) x hx
 rcases h.o p hp with e2|⟨l,hl,e2,_⟩
 ·omega
 ·omega
def iK(f:Nat->Nat):Nat->Nat
 |0=>0
 |k+1=>iK f k+f k
theorem E_{f g:Nat->Nat}:∀ n,(∀ k,k<n->f k<=g k)->iK f n<=iK g n
 |0,_=>Nat.le_refl _
 |n+1,h=>by
  have:=E_ n (λk hk=>h k (by omega))
  have:=h n (by omega)
  rw[iK,iK]
  omega
theorem tC{f g:Nat->Nat}:∀ n,(∀ k,k<n->f k=g k)->iK f n=iK g n
 |0,_=>rfl
 |n+1,h=>by rw[iK,iK,tC n (λk hk=>h k (by omega)),h n (by omega)]
theorem lK{f g:Nat->Nat}{k:Nat}:∀ n,k<n->(∀ i,i<n->i≠k->g i=f i)->iK g n+f k=iK f n+g k
 |0,h,_=>by omega
 |n+1,h,hg=>by
  rw[iK,iK]
  by_cases e:k=n
  ·subst e
   have:=tC k (λi hi=>hg i (by omega) (by omega))
   omega
  ·have:=lK n (by omega) (λi hi hne=>hg i (by omega) hne)
   have:=hg n (by omega) (λe'=>e e'.symm)
   omega
theorem Ah(f:Nat->Int)(a:Nat):∀ b,dR f (a+b)=dR f a+dR (λi=>f (a+i)) b
 |0=>rfl
 |b+1=>by
  rw[<-Nat.add_assoc,dR,dR,Ah f a b]
  omega
def aV(P:Nat)(s:Bk)(k:Nat):Nat:=dR (λi=>s.lb (k*P+i)) P
theorem Ai(P:Nat)(s:Bk):∀ N,iK (aV P s) N=dR s.lb (N*P)
 |0=>by rw[Nat.zero_mul];rfl
 |N+1=>by
  rw[iK,Ai P s N,Nat.add_mul,Nat.one_mul,Ah]
  rfl
theorem ou(P:Nat)(s:Bk)(k:Nat):aV P s k<=P:=xX _ _
structure gN where
 next:Nat->Nat
 bad:Nat->Bool
def bZ(P:Nat)(c:gN)(k:Nat):Nat:=if c.bad k=true then 0 else P-c.next k
def aM(P N:Nat)(c:gN):Nat:=iK (bZ P c) N
def bW(N:Nat)(c:gN):Nat:=iK (λk=>if c.bad k=true then 1 else 0) N
def pV(P N:Nat)(c:gN):Prop:=∀ i k,i<N->k<N->c.bad i=false->c.bad k=false->0<c.next i->c.next i<P->0<c.next k->c.next k<P->i=k
def Full(P:Nat)(c:gN)(k:Nat):Prop:=c.bad k=false/\c.next k=P
theorem yg{L P N spare:Nat}{s:Bk}{c:gN}(hI:Inv L (N*P) s)(hP:1<=P)(h1:pV P N c)(hb:bW N c<=spare)(hs:spare+4<=N)(hL:L<=(N-spare-4)*P)(hn:∀ k,c.next k<=P)(hlt:aM P N c<(spare-bW N c+3)*P):∃ k,k<N/\Full P c k/\aV P s k<P:=by
 refine Classical.byContradiction λhno=>?_
 have hfull:∀ k,k<N->Full P c k->aV P s k=P:=λk hk hF=>by
  have:=ou P s k
  rcases Nat.lt_or_ge (aV P s k) P with h|h
  ·exact(hno ⟨k,hk,hF,h⟩).elim
  ·omega
 -- each block is bad,or full and all live,or blank,or the one in between
 have key:∀ n,n<=N->n*P<=iK (aV P s) n+aM P n c+bW n c*P+P/\((∀ k,k<n->c.bad k=false->¬(0<c.next k/\c.next k<P))->n*P<=iK (aV P s) n+aM P n c+bW n c*P):=by
  intro n
  induction n with
  |zero=>intro _;simp[aM,bW,iK]
  |succ n ih =>
   intro hn1
   obtain⟨i1,i2⟩:=ih (by omega)
   have e1:iK (aV P s) (n+1)=iK (aV P s) n+aV P s n:=rfl
   have e2:aM P (n+1) c=aM P n c+bZ P c n:=rfl
   have e3:bW (n+1) c=bW n c+(if c.bad n=true then 1 else 0):=rfl
   have e4:(n+1)*P=n*P+P:=by rw[Nat.add_mul,Nat.one_mul]
   rw[e1,e2,e3,e4]
   have hnx:=hn n
   cases hbad:c.bad n with
   |true =>
    have e5:(bW n c+1)*P=bW n c*P+P:=by rw[Nat.add_mul,Nat.one_mul]
    simp only[if_true]
    rw[e5]
    refine⟨by omega,λh=>?_⟩
    have:=i2 (λk hk=>h k (by omega))
    omega
   |false =>
    have e5:bZ P c n=P-c.next n:=by unfold bZ;rw[hbad];rfl
    simp only[Bool.false_eq_true,if_false,Nat.add_zero]
    rw[e5]
    by_cases hf:c.next n=P
    ·have:=hfull n (by omega) ⟨hbad,hf⟩
     refine⟨by omega,λh=>?_⟩
     have:=i2 (λk hk=>h k (by omega))
     omega
    ·by_cases h0:c.next n=0
     ·refine⟨by omega,λh=>?_⟩
      have:=i2 (λk hk=>h k (by omega))
      omega
     ·-- the one in between: no other ahead of it
      have hnone:∀ k,k<n->c.bad k=false->¬(0<c.next k/\c.next k<P):=λk hk hbk ⟨q1,q2⟩=>by
       have:=h1 k n (by omega) (by omega) hbk hbad q1 q2 (by omega) (by omega)
       omega
      have:=i2 hnone
      refine⟨by omega,λh=>?_⟩
      exact(h n (by omega) hbad ⟨by omega,by omega⟩).elim
 obtain⟨k1,_⟩:=key N (Nat.le_refl _)
 rw[Ai] at k1
 have hlv:=Nv hI
 have e6:N*P=(N-spare-4)*P+(spare+4)*P:=by rw[<-Nat.add_mul];congr 1;omega
 have e7:(spare+4)*P=(spare-bW N c+3)*P+(bW N c*P+P):=by
  rw[<-Nat.succ_mul,<-Nat.add_mul];congr 1;omega
 omega
def bM(P N spare:Nat)(c:gN):Nat:=(spare-bW N c+3)*P
def Room(P N spare k:Nat)(s:Bk)(c:gN):Prop:=bM P N spare c<=aM P N c\/∃ v,v<N/\Full P c v/\aV P s v<P/\bM P N spare c<=aM P N c+(P-aV P s v)+k
theorem Room.more{P N spare k k':Nat}{s:Bk}{c:gN}(h:Room P N spare k s c)(hk:k<=k'):Room P N spare k' s c:=by
 rcases h with h|⟨v,h1,h2,h3,h4⟩
 ·exact Or.inl h
 ·exact Or.inr ⟨v,h1,h2,h3,by omega⟩
theorem rY{P N spare:Nat}{c:gN}:3*P<=bM P N spare c:=by
 unfold bM
 rw[Nat.add_mul]
 omega
def dI(c:gN)(b:Nat):gN:=⟨upd c.next b (c.next b+1),c.bad⟩
theorem tF{N:Nat}{c:gN}{b:Nat}:bW N (dI c b)=bW N c:=rfl
theorem G5{P N spare:Nat}{c:gN}{b:Nat}:bM P N spare (dI c b)=bM P N spare c:=rfl
theorem tH{P N:Nat}{c:gN}{b:Nat}(hb:b<N)(hg:c.bad b=false)(hn:c.next b<P):aM P N (dI c b)+1=aM P N c:=by
 have h:=lK (f:=bZ P c) (g:=bZ P (dI c b)) (k:=b) N hb (λi hi hne=>by
  unfold bZ dI
  dsimp only
  rw[upd_ne _ _ _ _ hne])
 have e1:bZ P c b=P-c.next b:=by unfold bZ;rw[hg];rfl
 have e2:bZ P (dI c b) b=P-(c.next b+1):=by
  unfold bZ dI
  dsimp only
  rw[upd_same,hg];rfl
 unfold aM
 omega
theorem G6{P:Nat}{c:gN}{b v:Nat}(hb:c.next b<P)(hv:Full P c v):v≠b/\Full P (dI c b) v:=by
 have hne:v≠b:=by rintro rfl;have:=hv.2;omega
 refine⟨hne,hv.1,?_⟩
 show upd c.next b (c.next b+1) v=P
 rw[upd_ne _ _ _ _ hne];exact hv.2
def rP(P N:Nat)(c:gN)(b:Nat):Prop:=b<N/\c.bad b=false/\c.next b<P/\(c.next b=0->∀ i,i<N->c.bad i=false->¬(0<c.next i/\c.next i<P))
theorem JL{P N:Nat}{c:gN}{b:Nat}(h:pV P N c)(hx:rP P N c b):pV P N (dI c b):=by
 obtain⟨h1,h2,h3,h4⟩:=hx
 have key:∀ i,i<N->c.bad i=false->0<(dI c b).next i->(dI c b).next i<P->i=b:=by
  intro i hi hbi q1 q2
  by_cases e:i=b
  ·exact e
  ·have e2:(dI c b).next i=c.next i:=upd_ne _ _ _ _ e
   rw[e2] at q1 q2
   by_cases h0:c.next b=0
   ·exact(h4 h0 i hi hbi ⟨q1,q2⟩).elim
   ·exact h i b hi h1 hbi h2 q1 q2 (by omega) h3
 intro i k hi hk hbi hbk q1 q2 q3 q4
 rw[key i hi hbi q1 q2,key k hk hbk q3 q4]
def fV(c:gN)(v:Nat):gN:=⟨upd c.next v 0,c.bad⟩
theorem tJ{P N:Nat}{c:gN}{v:Nat}(hv:v<N)(hF:Full P c v):aM P N (fV c v)=aM P N c+P:=by
 have h:=lK (f:=bZ P c) (g:=bZ P (fV c v)) (k:=v) N hv (λi hi hne=>by
  unfold bZ fV
  dsimp only
  rw[upd_ne _ _ _ _ hne])
 have e1:bZ P c v=0:=by unfold bZ;rw[hF.1,hF.2];simp
 have e2:bZ P (fV c v) v=P:=by
  unfold bZ fV
  dsimp only
  rw[upd_same,hF.1];rfl
 unfold aM
 omega
theorem JM{P N:Nat}{c:gN}{v:Nat}(h:pV P N c):pV P N (fV c v):=by
 have key:∀ i,0<(fV c v).next i->i≠v/\(fV c v).next i=c.next i:=λi q=>by
  by_cases e:i=v
  ·subst e
   have:(fV c i).next i=0:=upd_same _ _ _
   omega
  ·exact⟨e,upd_ne _ _ _ _ e⟩
 intro i k hi hk hbi hbk q1 q2 q3 q4
 obtain⟨_,e1⟩:=key i q1
 obtain⟨_,e2⟩:=key k q3
 rw[e1] at q1 q2
 rw[e2] at q3 q4
 exact h i k hi hk hbi hbk q1 q2 q3 q4
def dU(c:gN)(v:Nat):gN:=⟨c.next,upd c.bad v true⟩
theorem tK{P N:Nat}{c:gN}{v:Nat}(hv:v<N)(hF:Full P c v):aM P N (dU c v)=aM P N c:=by
 have h:=lK (f:=bZ P c) (g:=bZ P (dU c v)) (k:=v) N hv (λi hi hne=>by
  have e:(dU c v).bad i=c.bad i:=upd_ne _ _ _ _ hne
  show (if (dU c v).bad i=true then 0 else P-c.next i)=(if c.bad i=true then 0 else P-c.next i)
  simp only[e])
 have e1:bZ P c v=0:=by unfold bZ;rw[hF.1,hF.2];simp
 have e2:bZ P (dU c v) v=0:=by
  have e:(dU c v).bad v=true:=upd_same _ _ _
  show (if (dU c v).bad v=true then 0 else P-c.next v)=0
  simp only[e,if_true]
 unfold aM
 omega
theorem Aj{N:Nat}{c:gN}{v:Nat}(hv:v<N)(hg:c.bad v=false):bW N (dU c v)=bW N c+1:=by
 have h:=lK (f:=λk=>if c.bad k=true then 1 else 0) (g:=λk=>if (dU c v).bad k=true then 1 else 0) (k:=v) N hv (λi hi hne=>by
  show (if upd c.bad v true i=true then 1 else 0)=_
  rw[upd_ne _ _ _ _ hne])
 have e1:(if c.bad v=true then 1 else 0)=0:=by rw[hg];rfl
 have e2:(if (dU c v).bad v=true then 1 else 0)=1:=by
  show (if upd c.bad v true v=true then 1 else 0)=1
  rw[upd_same];rfl
 simp only[e1,e2] at h
 unfold bW
 omega
theorem JN{P N:Nat}{c:gN}{v:Nat}(h:pV P N c):pV P N (dU c v):=by
 have key:∀ i,(dU c v).bad i=false->c.bad i=false:=λi q=>by
  by_cases e:i=v
  ·subst e
   have:(dU c i).bad i=true:=upd_same _ _ _
   rw[this] at q;cases q
  ·have:(dU c v).bad i=c.bad i:=upd_ne _ _ _ _ e
   rw[<-this];exact q
 intro i k hi hk hbi hbk q1 q2 q3 q4
 exact h i k hi hk (key i hbi) (key k hbk) q1 q2 q3 q4
structure Fit(L P N spare:Nat):Prop where
 p1:1<=P
 n4:spare+4<=N
 l1:L<=(N-spare-4)*P
theorem tL{L P N spare:Nat}{s s':Bk}{c:gN}{b:Nat}(hF:Fit L P N spare)(hI:Inv L (N*P) s')(h1:pV P N (dI c b))(hn:∀ k,(dI c b).next k<=P)(hb:bW N c<=spare)(hx:b<N/\c.bad b=false/\c.next b<P)(h:bM P N spare c<=aM P N c):Room P N spare 0 s' (dI c b):=by
 have e:=tH hx.1 hx.2.1 hx.2.2
 by_cases h2:bM P N spare (dI c b)<=aM P N (dI c b)
 ·exact Or.inl h2
 ·obtain⟨v,hv,hf,hl⟩:=yg hI hF.p1 h1 (by rw[tF];exact hb) hF.n4 hF.l1 hn (by unfold bM at h2;omega)
  refine Or.inr ⟨v,hv,hf,hl,?_⟩
  rw[G5]
  omega
theorem tO{L P N spare k v:Nat}{s:Bk}{c:gN}(h:Room P N spare k s c)(hs:aM P N c<bM P N spare c)(hv:v<N/\Full P c v/\aV P s v<P)(hmin:∀ u,u<N->Full P c u->aV P s u<P->aV P s v<=aV P s u):bM P N spare c<=aM P N c+(P-aV P s v)+k:=by
 rcases h with h|⟨u,h1,h2,h3,h4⟩
 ·omega
 ·have:=hmin u h1 h2 h3
  omega
theorem Dc{L P N spare k v:Nat}{s:Bk}{c:gN}(hF:Fit L P N spare)(hI:Inv L (N*P) s)(h1:pV P N (fV c v))(hn:∀ i,(fV c v).next i<=P)(hb:bW N c<=spare)(hv:v<N/\Full P c v)(h:bM P N spare c<=aM P N c+P+k):Room P N spare k s (fV c v):=by
 have e:=tJ hv.1 hv.2
 have e2:bM P N spare (fV c v)=bM P N spare c:=rfl
 by_cases h2:bM P N spare (fV c v)<=aM P N (fV c v)
 ·exact Or.inl h2
 ·obtain⟨u,hu,hf,hl⟩:=yg hI hF.p1 h1 hb hF.n4 hF.l1 hn (by unfold bM at h2;omega)
  exact Or.inr ⟨u,hu,hf,hl,by omega⟩
theorem Ak{L P N spare k v:Nat}{s:Bk}{c:gN}(hF:Fit L P N spare)(hI:Inv L (N*P) s)(h1:pV P N (dU c v))(hn:∀ i,(dU c v).next i<=P)(hb:bW N (dU c v)<=spare)(hv:v<N/\Full P c v)(h:bM P N spare c<=aM P N c+P+k):Room P N spare k s (dU c v):=by
 have e:=tK hv.1 hv.2
 have e1:=Aj hv.1 hv.2.1
 have e2:bM P N spare c=bM P N spare (dU c v)+P:=by
  unfold bM
  rw[e1,<-Nat.succ_mul]
  congr 1
  omega
 by_cases h2:bM P N spare (dU c v)<=aM P N (dU c v)
 ·exact Or.inl h2
 ·obtain⟨u,hu,hf,hl⟩:=yg hI hF.p1 h1 hb hF.n4 hF.l1 hn (by unfold bM at h2;omega)
  exact Or.inr ⟨u,hu,hf,hl,by omega⟩
theorem yh{P N:Nat}{c:gN}(h:0<aM P N c):∃ k,k<N/\c.bad k=false/\c.next k<P:=by
 refine Classical.byContradiction λhno=>?_
 have:iK (bZ P c) N<=iK (λ_=>0) N:=E_ N (λk hk=>by
  unfold bZ
  cases hb:c.bad k with
  |true=>simp
  |false =>
   have:¬c.next k<P:=λe=>hno ⟨k,hk,hb,e⟩
   simp;omega)
 have h0:∀ n,iK (λ_=>0) n=0:=λn=>by
  induction n with
  |zero=>rfl
  |succ n ih=>rw[iK,ih]
 rw[h0] at this
 unfold aM at h
 omega
theorem Am{f g:Nat->Int}{k:Nat}:∀ n,k<n->(∀ i,i<n->i≠k->g i=f i)->dR g n+(if f k=-1 then 0 else 1)=dR f n+(if g k=-1 then 0 else 1)
 |0,h,_=>by omega
 |n+1,h,hg=>by
  rw[dR,dR]
  by_cases e:k=n
  ·subst e
   have h2:∀ m,m<=k->dR g m=dR f m:=λm hm=>by
    induction m with
    |zero=>rfl
    |succ m ih=>rw[dR,dR,ih (by omega),hg m (by omega) (by omega)]
   have:=h2 k (Nat.le_refl _)
   omega
  ·have:=Am n (by omega) (λi hi hne=>hg i (by omega) hne)
   have:=hg n (by omega) (λe'=>e e'.symm)
   rw[this]
   omega
theorem tQ{f g:Nat->Int}:∀ n,(∀ i,i<n->g i=f i)->dR g n=dR f n
 |0,_=>rfl
 |n+1,h=>by rw[dR,dR,tQ n (λi hi=>h i (by omega)),h n (by omega)]
theorem wL{f:Nat->Int}:∀ n,(∀ i,i<n->f i=-1)->dR f n=0
 |0,_=>rfl
 |n+1,h=>by rw[dR,wL n (λi hi=>h i (by omega)),h n (by omega)];rfl
end Go.Proofs.ay
namespace Go.Proofs.ay
open Go.RowKit
theorem wM{l xs:List Nat}{off i:Nat}(h:off+xs.length<=l.length):(splice l off xs)[i]?=if i<off then l[i]? else if i<off+xs.length then xs[i-off]? else l[i]?:=by
 unfold splice
 have hl:(l.take off).length=off:=by simp;omega
 by_cases h1:i<off
 ·rw[if_pos h1,List.getElem?_append_left (by rw[hl];exact h1),List.getElem?_take,if_pos h1]
 ·rw[if_neg h1,List.getElem?_append_right (by rw[hl];omega),hl]
  by_cases h2:i<off+xs.length
  ·rw[if_pos h2,List.getElem?_append_left (by omega)]
  ·rw[if_neg h2,List.getElem?_append_right (by omega),List.getElem?_drop]
   congr 1;omega
theorem yj{l:List Nat}{a n i:Nat}:(dN l a n)[i]?=if i<n then l[a+i]? else none:=by
 unfold dN
 rw[List.getElem?_take]
 split
 ·rw[List.getElem?_drop]
 ·rfl
theorem JO{l xs:List Nat}{j Y:Nat}(hx:xs.length<=Y)(hl:j*Y+Y<=l.length):dN (splice l (j*Y) xs) (j*Y) Y=xs++(dN l (j*Y) Y).drop xs.length:=by
 apply List.ext_getElem?
 intro i
 rw[yj,wM (by omega)]
 by_cases h1:i<xs.length
 ·rw[if_pos (by omega),if_neg (by omega),if_pos (by omega),List.getElem?_append_left h1]
  congr 1;omega
 ·rw[List.getElem?_append_right (by omega),List.getElem?_drop,yj]
  by_cases h2:i<Y
  ·rw[if_pos h2,if_neg (by omega),if_neg (by omega),if_pos (by omega)]
   congr 1;omega
  ·rw[if_neg h2,if_neg (by omega)]
theorem wN{l xs:List Nat}{i j Y:Nat}(hx:xs.length<=Y)(hl:j*Y+Y<=l.length)(hij:i≠j):dN (splice l (j*Y) xs) (i*Y) Y=dN l (i*Y) Y:=by
 apply List.ext_getElem?
 intro k
 rw[yj,yj]
 by_cases hk:k<Y
 ·rw[if_pos hk,if_pos hk,wM (by omega)]
  rcases Nat.lt_or_gt_of_ne hij with h|h
  ·have:i*Y+Y<=j*Y:=by rw[<-Nat.succ_mul];exact Nat.mul_le_mul_right Y h
   rw[if_pos (by omega)]
  ·have:j*Y+Y<=i*Y:=by rw[<-Nat.succ_mul];exact Nat.mul_le_mul_right Y h
   rw[if_neg (by omega),if_neg (by omega)]
 ·rw[if_neg hk,if_neg hk]
theorem r9{n v a k:Nat}(h:a+k<=n):dN (List.replicate n v) a k=List.replicate k v:=by
 unfold dN
 rw[List.drop_replicate,List.take_replicate]
 congr 1;omega
def fq(P Y:Nat)(bytes:Nat->List Nat)(p:Nat):List Nat:=dN (bytes (p/P)) (p%P*Y) Y
theorem div_mul{k j P:Nat}(h:j<P):(k*P+j)/P=k/\(k*P+j)%P=j:=by
 have hP:0<P:=by omega
 refine⟨?_,?_⟩
 ·rw[Nat.mul_comm,Nat.mul_add_div hP,Nat.div_eq_of_lt h,Nat.add_zero]
 ·rw[Nat.mul_comm,Nat.mul_add_mod,Nat.mod_eq_of_lt h]
theorem JQ{P Y k j:Nat}{bytes:Nat->List Nat}(h:j<P):fq P Y bytes (k*P+j)=dN (bytes k) (j*Y) Y:=by
 unfold fq
 rw[(div_mul h).1,(div_mul h).2]
theorem tT{k j P N:Nat}(hk:k<N)(hj:j<P):k*P+j<N*P:=by
 have:k*P+P<=N*P:=by rw[<-Nat.succ_mul];exact Nat.mul_le_mul_right P hk
 omega
theorem lM{p P N:Nat}(hp:p<N*P):p/P<N/\p%P<P/\p=p/P*P+p%P:=by
 have hP:0<P:=by
  rcases Nat.eq_zero_or_pos P with e|e
  ·rw[e,Nat.mul_zero] at hp;omega
  ·exact e
 refine⟨?_,Nat.mod_lt _ hP,?_⟩
 ·rw[Nat.div_lt_iff_lt_mul hP];exact hp
 ·have:=Nat.div_add_mod p P;rw[Nat.mul_comm] at this;omega
theorem Fa{P Y N k j:Nat}{bytes:Nat->List Nat}{xs:List Nat}(hk:k<N)(hj:j<P)(hx:xs.length<=Y)(hl:(bytes k).length=P*Y):∀ p,p<N*P->fq P Y (upd bytes k (splice (bytes k) (j*Y) xs)) p=upd (fq P Y bytes) (k*P+j) (xs++(dN (bytes k) (j*Y) Y).drop xs.length) p:=by
 intro p hp
 obtain⟨h1,h2,h3⟩:=lM hp
 have hjY:j*Y+Y<=(bytes k).length:=by rw[hl,<-Nat.succ_mul];exact Nat.mul_le_mul_right Y hj
 by_cases e:p=k*P+j
 ·rw[e,upd_same,JQ hj,upd_same]
  exact JO hx hjY
 ·rw[upd_ne _ _ _ _ e]
  unfold fq
  by_cases ek:p/P=k
  ·rw[ek,upd_same]
   refine wN hx hjY (λej=>e ?_)
   rw[h3,ek,ej]
  ·rw[upd_ne _ _ _ _ ek]
theorem JU{P Y N k v:Nat}{bytes:Nat->List Nat}:∀ p,p<N*P->fq P Y (upd bytes k (List.replicate (P*Y) v)) p=if p/P=k then List.replicate Y v else fq P Y bytes p:=by
 intro p hp
 obtain⟨h1,h2,h3⟩:=lM hp
 unfold fq
 by_cases ek:p/P=k
 ·rw[if_pos ek,ek,upd_same]
  exact r9 (by rw[<-Nat.succ_mul];exact Nat.mul_le_mul_right Y h2)
 ·rw[if_neg ek,upd_ne _ _ _ _ ek]
theorem tV{n:Nat}:¬m_ (List.replicate n 255):=λh=>by
 have:=lJ h.1
 rw[List.getElem?_replicate] at this
 split at this<;>simp at this
theorem G7{n:Nat}:¬m_ (List.replicate n 0):=λh=>by
 have:=lJ h.1
 rw[List.getElem?_replicate] at this
 split at this<;>simp at this
theorem Nw{p:List Nat}{k:Nat}(h:k<p.length):¬m_ (tu p k):=λhc=>Ac h hc.1
theorem Ny{n cZ seq:Nat}{data:List Nat}(h:zP n 3 cZ seq data.length):¬m_ (aP n 3 cZ seq data):=λhc=>by
 have:=(lI h).1
 rcases hc.2 with e|e<;>omega
theorem yu{n v:Nat}(h:v<256):aW (List.replicate n v):=λx hx=>by
 rw[List.eq_of_mem_replicate hx];exact h
structure DV(N P Y L:Nat)(bytes:Nat->List Nat)(c:gN)(k:Bk)(seq:Nat):Prop where
 di:DI (N*P) L Y (fq P Y bytes) k.pa seq
 inv:Inv L (N*P) k
 bl:∀ b,b<N->c.bad b=false->∀ j,c.next b<=j->j<P->dN (bytes b) (j*Y) Y=List.replicate Y 255
 one:pV P N c
 nx:∀ b,c.next b<=P
 len:∀ b,b<N->(bytes b).length=P*Y
def lN(P Y:Nat)(bytes:Nat->List Nat)(k:Bk)(l:Nat):List Nat:=eP Y (fq P Y bytes) k.pa l
theorem DI.congr{M L Y seq:Nat}{pg GZ:Nat->List Nat}{pa:Nat->Int}(h:DI M L Y pg pa seq)(he:∀ p,p<M->GZ p=pg p):DI M L Y GZ pa seq/\∀ l,l<L->eP Y GZ pa l=eP Y pg pa l :=
 h.lose ⟨λp hp=>by rw[he p hp];exact h.pz.len p hp,λp hp=>by rw[he p hp];exact h.pz.all p hp⟩ (λp hp=>Or.inl (he p hp)) (λl hl q e=>he q (h.some l hl q e).1)
theorem DV.blank{N P Y L seq b:Nat}{bytes:Nat->List Nat}{c:gN}{k:Bk}(h:DV N P Y L bytes c k seq)(hx:rP P N c b):¬m_ (fq P Y bytes (b*P+c.next b))/\b*P+c.next b<N*P/\k.lb (b*P+c.next b)=-1:=by
 have hq:=tT hx.1 hx.2.2.1
 have hn:¬m_ (fq P Y bytes (b*P+c.next b)):=by
  rw[JQ hx.2.2.1,h.bl b hx.1 hx.2.1 _ (Nat.le_refl _) hx.2.2.1]
  exact tV
 refine⟨hn,hq,?_⟩
 rcases h.inv.o _ hq with e|⟨l,hl,e1,e2⟩
 ·exact e
 ·exact(hn (h.di.some l hl _ e2).2.1).elim
theorem DV.rest{N P Y L seq b:Nat}{bytes:Nat->List Nat}{c:gN}{k:Bk}(h:DV N P Y L bytes c k seq)(hx:rP P N c b){xs:List Nat}(hxs:xs.length<=Y) :
 (∀ i,i<N->(dI c b).bad i=false->∀ j,(dI c b).next i<=j->j<P->dN (upd bytes b (splice (bytes b) (c.next b*Y) xs) i) (j*Y) Y=List.replicate Y 255)/\pV P N (dI c b)/\(∀ i,(dI c b).next i<=P)/\(∀ i,i<N->(upd bytes b (splice (bytes b) (c.next b*Y) xs) i).length=P*Y):=by
 have hY:c.next b*Y+Y<=(bytes b).length:=by rw[h.len b hx.1,<-Nat.succ_mul];exact Nat.mul_le_mul_right Y hx.2.2.1
 refine⟨λi hi hbi j hj Nz=>?_,JL h.one hx,λi=>?_,λi hi=>?_⟩
 ·by_cases e:i=b
  ·subst e
   have e2:(dI c i).next i=c.next i+1:=upd_same _ _ _
   rw[e2] at hj
   rw[upd_same,wN hxs hY (by omega)]
   exact h.bl i hi hbi j (by omega) Nz
  ·have e2:(dI c b).next i=c.next i:=upd_ne _ _ _ _ e
   rw[e2] at hj
   rw[upd_ne _ _ _ _ e]
   exact h.bl i hi hbi j hj Nz
 ·by_cases e:i=b
  ·subst e
   have e2:(dI c i).next i=c.next i+1:=upd_same _ _ _
   have:=hx.2.2.1
   omega
  ·have e2:(dI c b).next i=c.next i:=upd_ne _ _ _ _ e
   rw[e2];exact h.nx i
 ·by_cases e:i=b
  ·subst e
   rw[upd_same]
   unfold splice
   rw[List.length_append,List.length_append,List.length_take,List.length_drop,h.len i hi]
   rw[h.len i hi] at hY
   omega
  ·rw[upd_ne _ _ _ _ e];exact h.len i hi
theorem DV.put{N P Y L seq b kind l:Nat}{bytes:Nat->List Nat}{c:gN}{k:Bk}{data:List Nat}(h:DV N P Y L bytes c k seq)(hx:rP P N c b)(hF:zP Y kind l seq data.length)(hk:kind=1\/kind=2)(hd1:kind=1->data.length+21=Y)(hd2:kind=2->data=[])(hA:aW data)(hl:l<L) :
 DV N P Y L (upd bytes b (splice (bytes b) (c.next b*Y) (aP Y kind l seq data))) (dI c b) (jl k l (b*P+c.next b)) (seq+1)/\∀ j,j<L->lN P Y (upd bytes b (splice (bytes b) (c.next b*Y) (aP Y kind l seq data))) (jl k l (b*P+c.next b)) j=if j=l then(if kind=1 then data else List.replicate (Y-21) 0) else lN P Y bytes k j:=by
 obtain⟨hn,hq,hlb⟩:=h.blank hx
 have hlen:(aP Y kind l seq data).length=Y:=fJ Y kind l seq data hF.d1
 obtain⟨r1,r2,r3,r4⟩:=h.rest hx (xs:=aP Y kind l seq data) (by omega)
 obtain⟨d1,d2⟩:=h.di.put hF hk hd1 hd2 hA hl hq hn
 have he:∀ p,p<N*P->fq P Y (upd bytes b (splice (bytes b) (c.next b*Y) (aP Y kind l seq data))) p=upd (fq P Y bytes) (b*P+c.next b) (aP Y kind l seq data) p:=λp hp=>by
  rw[Fa hx.1 hx.2.2.1 (by omega) (h.len b hx.1) p hp]
  congr 1
  rw[List.drop_eq_nil_of_le,List.append_nil]
  unfold dN
  rw[List.length_take]
  omega
 obtain⟨d3,d4⟩:=d1.congr he
 refine⟨⟨?_,z8 h.inv hl hq (Or.inl hlb),r1,r2,r3,r4⟩,λj hj=>?_⟩
 ·rw[EX];exact d3
 ·show eP Y _ (jl k l (b*P+c.next b)).pa j=_
  rw[EX,d4 j hj]
  exact d2 j hj
theorem DV.junk{N P Y L seq b:Nat}{bytes:Nat->List Nat}{c:gN}{k:Bk}{xs:List Nat}(h:DV N P Y L bytes c k seq)(hx:rP P N c b)(hxs:xs.length<=Y)(hA:aW xs)(hn:¬m_ (xs++List.replicate (Y-xs.length) 255)) :
 DV N P Y L (upd bytes b (splice (bytes b) (c.next b*Y) xs)) (dI c b) k seq/\∀ j,j<L->lN P Y (upd bytes b (splice (bytes b) (c.next b*Y) xs)) k j=lN P Y bytes k j:=by
 obtain⟨hn0,hq,hlb⟩:=h.blank hx
 obtain⟨r1,r2,r3,r4⟩:=h.rest hx hxs
 have hX:xs++(dN (bytes b) (c.next b*Y) Y).drop xs.length=xs++List.replicate (Y-xs.length) 255:=by
  rw[h.bl b hx.1 hx.2.1 _ (Nat.le_refl _) hx.2.2.1,List.drop_replicate]
 obtain⟨d1,d2⟩:=h.di.junk (q:=b*P+c.next b) (x:=xs++List.replicate (Y-xs.length) 255) (by simp;omega) (aW.app hA (yu (by omega))) hn hn0
 have he:∀ p,p<N*P->fq P Y (upd bytes b (splice (bytes b) (c.next b*Y) xs)) p=upd (fq P Y bytes) (b*P+c.next b) (xs++List.replicate (Y-xs.length) 255) p:=λp hp=>by
  rw[Fa hx.1 hx.2.2.1 hxs (h.len b hx.1) p hp,hX]
 obtain⟨d3,d4⟩:=d1.congr he
 exact⟨⟨d3,h.inv,r1,r2,r3,r4⟩,λj hj=>(d4 j hj).trans (d2 j hj)⟩
theorem DV.note{N P Y L seq b cZ sq:Nat}{bytes:Nat->List Nat}{c:gN}{k:Bk}{data:List Nat}(h:DV N P Y L bytes c k seq)(hx:rP P N c b)(hF:zP Y 3 cZ sq data.length)(hA:aW data) :
 DV N P Y L (upd bytes b (splice (bytes b) (c.next b*Y) (aP Y 3 cZ sq data))) (dI c b) k seq/\∀ j,j<L->lN P Y (upd bytes b (splice (bytes b) (c.next b*Y) (aP Y 3 cZ sq data))) k j=lN P Y bytes k j:=by
 have hlen:(aP Y 3 cZ sq data).length=Y:=fJ Y 3 cZ sq data hF.d1
 refine h.junk hx (by omega) (iQ Y 3 cZ sq data (by omega) hA) ?_
 rw[hlen,Nat.sub_self,List.replicate_zero,List.append_nil]
 exact Ny hF
theorem DV.VU{N P Y L seq b:Nat}{bytes:Nat->List Nat}{c:gN}{k:Bk}{page:List Nat}(h:DV N P Y L bytes c k seq)(hx:rP P N c b)(hp:page.length=Y)(hY:8<=Y)(hA:aW page) :
 DV N P Y L (upd bytes b (splice (bytes b) (c.next b*Y) (page.take (Y/2)))) (dI c b) k seq/\∀ j,j<L->lN P Y (upd bytes b (splice (bytes b) (c.next b*Y) (page.take (Y/2)))) k j=lN P Y bytes k j:=by
 have hl:(page.take (Y/2)).length=Y/2:=by rw[List.length_take];omega
 refine h.junk hx (by omega) (hA.take _) ?_
 rw[hl]
 have:page.take (Y/2)++List.replicate (Y-Y/2) 255=tu page (Y/2):=by unfold tu;rw[hp]
 rw[this]
 exact Nw (by omega)
theorem DV.fill{N P Y L seq v x:Nat}{bytes:Nat->List Nat}{c c':gN}{k:Bk}(h:DV N P Y L bytes c k seq)(hv:v<N)(hfree:∀ i,i<P->k.lb (v*P+i)=-1)(hx:x=255\/x=0)
 (hb:∀ b,b<N->c'.bad b=false->∀ j,c'.next b<=j->j<P->dN (upd bytes v (List.replicate (P*Y) x) b) (j*Y) Y=List.replicate Y 255) (h1:pV P N c') (hn:∀ b,c'.next b<=P) :
 DV N P Y L (upd bytes v (List.replicate (P*Y) x)) c' k seq/\∀ j,j<L->lN P Y (upd bytes v (List.replicate (P*Y) x)) k j=lN P Y bytes k j:=by
 have hlt:x<256:=by omega
 have hno:¬m_ (List.replicate Y x):=by
  rcases hx with e|e
  ·rw[e];exact tV
  ·rw[e];exact G7
 have hq:∀ p,p<N*P->fq P Y (upd bytes v (List.replicate (P*Y) x)) p=if p/P=v then List.replicate Y x else fq P Y bytes p:=λp hp=>JU (N:=N) p hp
 obtain⟨d1,d2⟩:=h.di.lose (GZ:=fq P Y (upd bytes v (List.replicate (P*Y) x))) ⟨λp hp=>by
  rw[hq p hp];split
  ·simp
  ·exact h.di.pz.len p hp,λp hp=>by
  rw[hq p hp];split
  ·exact yu hlt
  ·exact h.di.pz.all p hp⟩ (λp hp=>by
  rw[hq p hp]
  by_cases e:p/P=v
  ·rw[if_pos e];exact Or.inr hno
  ·rw[if_neg e];exact Or.inl rfl) (λl hl q e=>by
  have hqM:=(h.di.some l hl q e).1
  rw[hq q hqM]
  by_cases e2:q/P=v
  ·obtain⟨p1,p2,p3⟩:=lM hqM
   have e3:=hfree (q%P) p2
   rw[<-e2,<-p3] at e3
   rcases h.inv.a l hl with e4|⟨q',_,e5,e6⟩
   ·omega
   ·have:q'=q:=by omega
    subst this
    omega
  ·rw[if_neg e2])
 refine⟨⟨d1,h.inv,hb,h1,hn,λb hb=>?_⟩,d2⟩
 by_cases e:b=v
 ·subst e;rw[upd_same];simp
 ·rw[upd_ne _ _ _ _ e];exact h.len b hb
theorem DV.Y6{N P Y L seq v:Nat}{bytes:Nat->List Nat}{c:gN}{k:Bk}(h:DV N P Y L bytes c k seq)(hv:v<N)(hfree:∀ i,i<P->k.lb (v*P+i)=-1) :
 DV N P Y L (upd bytes v (List.replicate (P*Y) 255)) (fV c v) k seq/\∀ j,j<L->lN P Y (upd bytes v (List.replicate (P*Y) 255)) k j=lN P Y bytes k j:=by
 refine h.fill hv hfree (Or.inl rfl) (λb hb hbad j hj Nz=>?_) (JM h.one) (λb=>?_)
 ·by_cases e:b=v
  ·subst e
   rw[upd_same]
   exact r9 (by rw[<-Nat.succ_mul];exact Nat.mul_le_mul_right Y Nz)
  ·have e2:(fV c v).next b=c.next b:=upd_ne _ _ _ _ e
   rw[e2] at hj
   rw[upd_ne _ _ _ _ e]
   exact h.bl b hb hbad j hj Nz
 ·by_cases e:b=v
  ·subst e
   have:(fV c b).next b=0:=upd_same _ _ _
   omega
  ·have:(fV c v).next b=c.next b:=upd_ne _ _ _ _ e
   rw[this];exact h.nx b
theorem DV.Y7{N P Y L seq v:Nat}{bytes:Nat->List Nat}{c c':gN}{k:Bk}(h:DV N P Y L bytes c k seq)(hv:v<N)(hF:Full P c v)(hc:∀ b,c'.next b=c.next b)(hc2:∀ b,c'.bad b=c.bad b)(hfree:∀ i,i<P->k.lb (v*P+i)=-1) :
 DV N P Y L (upd bytes v (List.replicate (P*Y) 0)) c' k seq/\∀ j,j<L->lN P Y (upd bytes v (List.replicate (P*Y) 0)) k j=lN P Y bytes k j:=by
 refine h.fill hv hfree (Or.inr rfl) (λb hb hbad j hj Nz=>?_) (λi j hi hj q1 q2 q3 q4 q5 q6=>?_) (λb=>by rw[hc];exact h.nx b)
 ·rw[hc] at hj
  rw[hc2] at hbad
  by_cases e:b=v
  ·subst e
   have:=hF.2
   omega
  ·rw[upd_ne _ _ _ _ e]
   exact h.bl b hb hbad j hj Nz
 ·rw[hc2] at q1 q2
  rw[hc] at q3 q4 q5 q6
  exact h.one i j hi hj q1 q2 q3 q4 q5 q6
theorem DV.fail{N P Y L seq v:Nat}{bytes:Nat->List Nat}{c:gN}{k:Bk}(h:DV N P Y L bytes c k seq):DV N P Y L bytes (dU c v) k seq:=by
 refine⟨h.di,h.inv,λb hb hbad j hj Nz=>?_,JN h.one,h.nx,h.len⟩
 have e:c.bad b=false:=by
  by_cases e:b=v
  ·subst e
   have:(dU c b).bad b=true:=upd_same _ _ _
   rw[this] at hbad;cases hbad
  ·have:(dU c v).bad b=c.bad b:=upd_ne _ _ _ _ e
   rw[<-this];exact hbad
 exact h.bl b hb e j hj Nz
theorem DV.frame{N P Y L seq l q:Nat}{bytes:Nat->List Nat}{c:gN}{k:Bk}(h:DV N P Y L bytes c k seq)(hl:l<L)(hq:k.pa l=(q:Int)):q<N*P/\m_ (fq P Y bytes q)/\bL (fq P Y bytes q)=l/\lN P Y bytes k l=(if aN (fq P Y bytes q)=1 then aR (fq P Y bytes q) else List.replicate (Y-21) 0)/\(aN (fq P Y bytes q)=1->(aR (fq P Y bytes q)).length+21=Y)/\(aN (fq P Y bytes q)=2->aR (fq P Y bytes q)=[]):=by
 obtain⟨h1,h2,h3,h4⟩:=h.di.some l hl q hq
 obtain⟨g1,g2,g3,g4⟩:=h.di.ok q h1 h2
 have hlong:(aR (fq P Y bytes q)).length=aU (fq P Y bytes q):=fK h2.1.1.d1
 refine⟨h1,h2,h3,?_,λe=>by rw[hlong];exact g3 e,λe=>?_⟩
 ·unfold lN eP
  rw[hq,if_neg (by omega),Int.toNat_natCast]
 ·have:=g4 e
  exact List.eq_nil_of_length_eq_zero (by rw[hlong];exact this)
theorem Ao{L M P v:Nat}{k:Bk}{l q r:Nat}(hI:Inv L M k)(hl:l<L)(hpa:k.pa l=(r:Int))(hr:r/P=v)(hq:q/P≠v)(hP:0<P)(hrq:r≠q):aV P (jl k l q) v+1=aV P k v:=by
 have hlb:k.lb r=(l:Int):=by
  rcases hI.a l hl with e|⟨p,_,e1,e2⟩
  ·omega
  ·have:p=r:=by omega
   subst this;exact e2
 have hr2:r=v*P+r%P:=by have:=Nat.div_add_mod r P;rw[Nat.mul_comm,hr] at this;omega
 unfold aV
 have hother:∀ i,i<P->i≠r%P->(jl k l q).lb (v*P+i)=k.lb (v*P+i):=λi hi hne=>by
  have e1:v*P+i≠q:=λe=>hq (by rw[<-e];exact(div_mul hi).1)
  have e2:v*P+i≠r:=λe=>by omega
  show upd (eB k l).lb q (l:Int) (v*P+i)=_
  rw[upd_ne _ _ _ _ e1]
  show (if k.pa l=-1 then k.lb else upd k.lb (k.pa l).toNat (-1)) (v*P+i)=_
  rw[if_neg (by omega),hpa,Int.toNat_natCast,upd_ne _ _ _ _ e2]
 have hu:=Am (f:=λi=>k.lb (v*P+i)) (g:=λi=>(jl k l q).lb (v*P+i)) (k:=r%P) P (Nat.mod_lt _ hP) hother
 have e3:(jl k l q).lb (v*P+r%P)=-1:=by rw[<-hr2];exact wC hI hl hpa hrq
 have e4:k.lb (v*P+r%P)=(l:Int):=by rw[<-hr2];exact hlb
 simp only[e3,e4,if_true] at hu
 rw[if_neg (by omega)] at hu
 omega

/- Part of the proof. -/
import Derived.Laws.CopyOwn
set_option linter.unusedVariables false
namespace Go.Proofs.ak
variable {L P p:Nat}
def upd{α:Type}(f:Nat->α)(k:Nat)(v:α):Nat->α:=λi=>if i=k then v else f i
theorem upd_same{α:Type}(f:Nat->α)(k:Nat)(v:α):upd f k v k=v:=if_pos rfl
theorem upd_ne{α:Type}(f:Nat->α)(k i:Nat)(v:α)(h:i≠k):upd f k v i=f i:=if_neg h
structure Bk where
 pa:Nat->Int
 lb:Nat->Int
def fresh:Bk:=⟨λ_=>-1,λ_=>-1⟩
structure Inv(L P:Nat)(s:Bk):Prop where
 a:∀ l,l<L->s.pa l=-1\/∃ p:Nat,p<P/\s.pa l=(p:Int)/\s.lb p=(l:Int)
 o:∀ p,p<P->s.lb p=-1\/∃ l:Nat,l<L/\s.lb p=(l:Int)/\s.pa l=(p:Int)
theorem zh(L P:Nat):Inv L P fresh:=⟨λ_ _=>Or.inl rfl,λ_ _=>Or.inl rfl⟩
def fV(s:Bk)(l:Nat):Bk:=⟨upd s.pa l (-1),if s.pa l=-1 then s.lb else upd s.lb (s.pa l).toNat (-1)⟩
theorem nM{s:Bk}(h:Inv L P s){l:Nat}(hl:l<L):Inv L P (fV s l):=by
 unfold fV
 rcases h.a l hl with e|⟨p,hp,e1,e2⟩
 .rw[if_pos e]
  refine⟨λk hk=>?_,λq hq=>?_⟩
  .by_cases hkl:k=l
   .subst hkl;left;exact upd_same _ _ _
   .rcases h.a k hk with e3|⟨p,h1,h2,h3⟩
    .left;show upd s.pa l (-1) k=-1;rw[upd_ne _ _ _ _ hkl];exact e3
    .right;exact⟨p,h1,by show upd s.pa l (-1) k=_;rw[upd_ne _ _ _ _ hkl];exact h2,h3⟩
  .rcases h.o q hq with e3|⟨k,h1,h2,h3⟩
   .exact Or.inl e3
   .have hkl:k≠l:=by rintro rfl;omega
    right;exact⟨k,h1,h2,by show upd s.pa l (-1) k=_;rw[upd_ne _ _ _ _ hkl];exact h3⟩
 .rw[if_neg (by omega),e1,Int.toNat_natCast]
  refine⟨λk hk=>?_,λq hq=>?_⟩
  .by_cases hkl:k=l
   .subst hkl;left;exact upd_same _ _ _
   .rcases h.a k hk with e3|⟨p',h1,h2,h3⟩
    .left;show upd s.pa l (-1) k=-1;rw[upd_ne _ _ _ _ hkl];exact e3
    .have hpp:p'≠p:=by rintro rfl;omega
     right;exact⟨p',h1,by show upd s.pa l (-1) k=_;rw[upd_ne _ _ _ _ hkl];exact h2,by show upd s.lb p (-1) p'=_;rw[upd_ne _ _ _ _ hpp];exact h3⟩
  .by_cases WZ:q=p
   .subst WZ;left;exact upd_same _ _ _
   .rcases h.o q hq with e3|⟨k,h1,h2,h3⟩
    .left;show upd s.lb p (-1) q=-1;rw[upd_ne _ _ _ _ WZ];exact e3
    .have hkl:k≠l:=by rintro rfl;omega
     right;exact⟨k,h1,by show upd s.lb p (-1) q=_;rw[upd_ne _ _ _ _ WZ];exact h2,by show upd s.pa l (-1) k=_;rw[upd_ne _ _ _ _ hkl];exact h3⟩
theorem CX(s:Bk)(l:Nat):(fV s l).pa l=-1:=upd_same _ _ _
theorem IC{s:Bk}(h:Inv L P s){l:Nat}(hl:l<L)(hp:p<P)(h1:s.pa l=-1)(h2:s.lb p=-1):Inv L P ⟨upd s.pa l (p:Int),upd s.lb p (l:Int)⟩:=by
 refine⟨λk hk=>?_,λq hq=>?_⟩
 .by_cases hkl:k=l
  .subst hkl;right;exact⟨p,hp,upd_same _ _ _,upd_same _ _ _⟩
  .rcases h.a k hk with e3|⟨p',g1,g2,g3⟩
   .left;show upd s.pa l (p:Int) k=-1;rw[upd_ne _ _ _ _ hkl];exact e3
   .have hpp:p'≠p:=by rintro rfl;omega
    right;exact⟨p',g1,by show upd s.pa l (p:Int) k=_;rw[upd_ne _ _ _ _ hkl];exact g2,by show upd s.lb p (l:Int) p'=_;rw[upd_ne _ _ _ _ hpp];exact g3⟩
 .by_cases WZ:q=p
  .subst WZ;right;exact⟨l,hl,upd_same _ _ _,upd_same _ _ _⟩
  .rcases h.o q hq with e3|⟨k,g1,g2,g3⟩
   .left;show upd s.lb p (l:Int) q=-1;rw[upd_ne _ _ _ _ WZ];exact e3
   .have hkl:k≠l:=by rintro rfl;omega
    right;exact⟨k,g1,by show upd s.lb p (l:Int) q=_;rw[upd_ne _ _ _ _ WZ];exact g2,by show upd s.pa l (p:Int) k=_;rw[upd_ne _ _ _ _ hkl];exact g3⟩
theorem CY{s:Bk}(h:Inv L P s){l:Nat}(hl:l<L)(hp:p<P)(hf:s.lb p=-1\/s.lb p=(l:Int)):(fV s l).lb p=-1:=by
 unfold fV
 rcases hf with e|e
 .show (if s.pa l=-1 then s.lb else upd s.lb (s.pa l).toNat (-1)) p=-1
  split
  .exact e
  .unfold upd;split
   .rfl
   .exact e
 .rcases h.o p hp with e2|⟨k,h1,h2,h3⟩
  .omega
  .obtain rfl:k=l:=by omega
   show (if s.pa k=-1 then s.lb else upd s.lb (s.pa k).toNat (-1)) p=-1
   rw[if_neg (by omega),h3,Int.toNat_natCast,upd_same]
def uP(n:Nat)(x:Int):Bool:=decide (0<=x/\x<(n:Int))
def Fv(s:Bk)(l p:Nat):Bk:=⟨upd (fV s l).pa l (p:Int),upd (fV s l).lb p (l:Int)⟩
def qd(L P:Nat)(s:Bk)(x y:Int):Nat × Bk :=
 if uP L x=false\/uP P y=false then(1,s) else if s.lb y.toNat≠-1/\s.lb y.toNat≠x then(10,s) else(0,Fv s x.toNat y.toNat)
theorem IE{n:Nat}{x:Int}(h:uP n x=true):∃ k:Nat,x=(k:Int)/\k<n:=by
 have h:=of_decide_eq_true h
 exact⟨x.toNat,by omega,by omega⟩
theorem MU{n k:Nat}(h:k<n):uP n (k:Int)=true:=decide_eq_true ⟨by omega,by omega⟩
theorem Fw(L P:Nat)(s:Bk)(x y:Int) :
 ((uP L x=false\/uP P y=false)/\qd L P s x y=(1,s)) \/
 ∃ l p:Nat,x=(l:Int)/\y=(p:Int)/\l<L/\p<P/\((s.lb p≠-1/\s.lb p≠(l:Int)/\qd L P s x y=(10,s))\/((s.lb p=-1\/s.lb p=(l:Int))/\qd L P s x y=(0,Fv s l p))):=by
 unfold qd
 by_cases h1:uP L x=false\/uP P y=false
 .exact Or.inl ⟨h1,if_pos h1⟩
 .right
  rw[if_neg h1]
  obtain⟨l,rfl,hl⟩:=IE (n:=L) (x:=x) (by cases h:uP L x with|true=>rfl|false=>exact absurd (Or.inl h) h1)
  obtain⟨p,rfl,hp⟩:=IE (n:=P) (x:=y) (by cases h:uP P y with|true=>rfl|false=>exact absurd (Or.inr h) h1)
  rw[Int.toNat_natCast,Int.toNat_natCast]
  refine⟨l,p,rfl,rfl,hl,hp,?_⟩
  by_cases h2:s.lb p≠-1/\s.lb p≠(l:Int)
  .exact Or.inl ⟨h2.1,h2.2,if_pos h2⟩
  .exact Or.inr ⟨by omega,if_neg h2⟩
theorem MV{s:Bk}(h:Inv L P s){l:Nat}(hl:l<L)(hp:p<P)(hf:s.lb p=-1\/s.lb p=(l:Int)):Inv L P (Fv s l p) :=
 IC (nM h hl) hl hp (CX s l) (CY h hl hp hf)
def abu(f:Nat->Int):Nat->Nat
 |0=>0
 |k+1=>abu f k+if f k=-1 then 0 else 1
def Fy(x:Nat):Nat:=if x%2=1 then(x/2) ^^^ 3988292384 else x/2
def RX:Nat->Nat->Nat
 |0,x=>x
 |n+1,x=>Fy (RX n x)
def MX(s b:Nat):Nat:=RX 8 (s ^^^ b)
def Aw(s:Nat)(l:List Nat):Nat:=l.foldl MX s
def IG(l:List Nat):Nat:=4294967295 ^^^ Aw 4294967295 l
theorem RY{x:Nat}(h:x<4294967296):Fy x<4294967296:=by
 unfold Fy
 split
 .exact Nat.xor_lt_two_pow (n:=32) (by omega) (by decide)
 .omega
theorem Ay{x:Nat}(h:x<4294967296):∀ n,RX n x<4294967296
 |0=>h
 |n+1=>RY (Ay h n)
theorem MZ{a b:Nat}(ha:a<4294967296)(hb:b<4294967296):a ^^^ b<4294967296:=Nat.xor_lt_two_pow (n:=32) ha hb
theorem RZ{s b:Nat}(h:s<4294967296)(hb:b<4294967296):MX s b<4294967296:=Ay (MZ h hb) 8
def bn(l:List Nat):Prop:=∀ x∈l,x<256
theorem II{s:Nat}(hs:s<4294967296):∀ l:List Nat,bn l->Aw s l<4294967296:=by
 intro l
 induction l generalizing s with
 |nil=>intro _;exact hs
 |cons b r ih=>intro h;exact ih (RZ hs (by have:=h b (by simp);omega)) (λx hx=>h x (by simp[hx]))
theorem Kr(s:Nat)(l:List Nat)(b:Nat):Aw s (l++[b])=MX (Aw s l) b:=by simp[Aw,List.foldl_append]
theorem bn.take{l:List Nat}(h:bn l)(k:Nat):bn (l.take k):=λx hx=>h x (List.mem_of_mem_take hx)
theorem bn.at{l:List Nat}(h:bn l)(k:Nat):l[k]?.getD 0<256:=by
 by_cases hk:k<l.length
 .rw[List.getElem?_eq_getElem hk];exact h _ (List.getElem_mem _)
 .rw[List.getElem?_eq_none (by omega)];decide
theorem pQ(l:List Nat)(k:Nat)(h:k<l.length):l.take (k+1)=l.take k++[l[k]?.getD 0]:=by
 rw[List.take_succ_eq_append_getElem h,List.getElem?_eq_getElem h];rfl
theorem M4{l:List Nat}(h:bn l):IG l<4294967296:=MZ (by decide) (II (by decide) l h)
variable {p:List Nat}
def low:Nat->Nat->List Nat
 |0,_=>[]
 |k+1,x=>x%256::low k (x/256)
def num:List Nat->Nat
 | []=>0
 |b::r=>b+256*num r
theorem cO:∀ k x,(low k x).length=k
 |0,_=>rfl
 |k+1,x=>by simp[low,cO k]
theorem nN:∀ k x,bn (low k x)
 |0,_=>λ_ h=>by simp[low] at h
 |k+1,x=>λy h=>by
  simp only[low,List.mem_cons] at h
  rcases h with rfl|h
  .omega
  .exact nN k _ y h
theorem CZ:∀ k,low k 0=List.replicate k 0
 |0=>rfl
 |k+1=>by rw[low,CZ k,List.replicate_succ]
theorem M5(k:Nat):2 ^ (8*(k+1))=256*2 ^ (8*k):=by rw[show 8*(k+1)=8+8*k by omega,Nat.pow_add]
theorem mX:∀ l,bn l->num l<2 ^ (8*l.length)
 | [],_=>by decide
 |b::r,h=>by
  have h1:=h b (by simp)
  have h2:=mX r (λx hx=>h x (by simp[hx]))
  rw[List.length_cons,M5]
  show b+256*num r<_
  omega
theorem C8:∀ l b,num (l++[b])=num l+b*2 ^ (8*l.length)
 | [],b=>by simp[num]
 |a::r,b=>by
  show a+256*num (r++[b])=a+256*num r+_
  rw[C8 r b,List.length_cons,M5,Nat.mul_left_comm]
  omega
theorem M6(l:List Nat)(b:Nat)(h:bn l):num l ||| b*2 ^ (8*l.length)=num (l++[b]):=by
 rw[C8,Nat.or_comm,Nat.mul_comm b,<-Nat.two_pow_add_eq_or_of_lt (mX l h)]
 omega
theorem vD:∀ k x,low (k+1) x=low k x++[x/2 ^ (8*k)%256]
 |0,x=>by simp[low]
 |k+1,x=>by
  show x%256::low (k+1) (x/256)=x%256::(low k (x/256)++_)
  rw[vD k,Nat.div_div_eq_div_mul,M5]
def zi(kind oV seq len:Nat):List Nat:=[165,kind]++(low 4 oV++(low 8 seq++low 2 len))
def C9(n:Nat)(data:List Nat):List Nat:=data++(List.replicate (n-21-data.length) 0++[90])
def kZ(n sum kind oV seq:Nat)(data:List Nat):List Nat:=zi kind oV seq data.length++(low 4 sum++C9 n data)
def h_(n kind oV seq:Nat)(data:List Nat):List Nat:=kZ n (IG (kZ n 0 kind oV seq data)) kind oV seq data
structure FOk(n kind oV seq len:Nat):Prop where
 n0:24<=n
 n1:n<=4096
 k0:1<=kind
 k1:kind<=3
 l1:oV<=4294967295
 s1:seq<=4611686018427387904
 d1:len+21<=n
theorem zk(kind oV seq len:Nat):(zi kind oV seq len).length=16:=by simp[zi,cO]
theorem Kt(n:Nat)(data:List Nat)(h:data.length+21<=n):(C9 n data).length=n-20:=by simp[C9];omega
theorem Ku(n sum kind oV seq:Nat)(data:List Nat)(h:data.length+21<=n):(kZ n sum kind oV seq data).length=n:=by
 unfold kZ
 rw[List.length_append,List.length_append,zk,cO,Kt n data h]
 omega
theorem zl(n kind oV seq:Nat)(data:List Nat)(h:data.length+21<=n):(h_ n kind oV seq data).length=n:=Ku n _ kind oV seq data h
theorem bn.app{a b:List Nat}(ha:bn a)(hb:bn b):bn (a++b):=λx hx=>by
 rcases List.mem_append.1 hx with h|h
 .exact ha x h
 .exact hb x h
theorem zm(n sum kind oV seq:Nat)(data:List Nat)(hk:kind<256)(hd:bn data):bn (kZ n sum kind oV seq data):=by
 unfold kZ zi C9
 refine bn.app (bn.app (λx hx=>?_) (bn.app (nN _ _) (bn.app (nN _ _) (nN _ _)))) (bn.app (nN _ _) (bn.app hd (bn.app (λx hx=>?_) (λx hx=>?_))))
 .simp at hx;omega
 .simp at hx;omega
 .simp at hx;omega
theorem zn(n kind oV seq:Nat)(data:List Nat)(hk:kind<256)(hd:bn data):bn (h_ n kind oV seq data):=zm n _ kind oV seq data hk hd
def je(p:List Nat)(a k:Nat):List Nat:=(p.drop a).take k
def bE(p:List Nat):Nat:=p[1]?.getD 0
def bZ(p:List Nat):Nat:=num (je p 2 4)
def bR(p:List Nat):Nat:=num (je p 6 8)
def bN(p:List Nat):Nat:=num (je p 14 2)
def bY(p:List Nat):List Nat:=je p 20 (bN p)
def l7(p:List Nat):Prop:=FOk p.length (bE p) (bZ p) (bR p) (bN p)/\h_ p.length (bE p) (bZ p) (bR p) (bY p)=p
def dK(p:List Nat):Prop:=0<p.length/\∀ i,i<p.length->p[i]?.getD 0=255
theorem FC(n kind oV seq:Nat)(data:List Nat):(h_ n kind oV seq data)[0]?.getD 0=165:=by simp[h_,kZ,zi]
theorem tV(h:l7 p):p[0]?.getD 0=165:=by
 have:=FC p.length (bE p) (bZ p) (bR p) (bY p)
 rwa [h.2] at this
theorem jK(h:bN p+21<=p.length):(bY p).length=bN p:=by
 unfold bY je
 rw[List.length_take,List.length_drop]
 omega
theorem FD(h:p[0]?.getD 0=165):¬dK p:=λe=>by
 have:=e.2 0 e.1
 rw[h] at this
 cases this
variable {p:List Nat}
def iB(p:List Nat):Bool:=p.length != 0&&p.all (·==255)
theorem j5(p:List Nat):iB p=true↔dK p:=by
 unfold iB dK
 simp only[Bool.and_eq_true,bne_iff_ne,ne_eq,List.all_eq_true,beq_iff_eq]
 constructor
 .rintro ⟨h1,h2⟩
  refine⟨by omega,λi hi=>?_⟩
  rw[List.getElem?_eq_getElem hi]
  exact h2 _ (List.getElem_mem hi)
 .rintro ⟨h1,h2⟩
  refine⟨by omega,λx hx=>?_⟩
  obtain⟨i,hi,rfl⟩:=List.mem_iff_getElem.1 hx
  have:=h2 i hi
  rw[List.getElem?_eq_getElem hi] at this
  exact this
def pR(p:List Nat):Bool:=decide (24<=p.length)&&decide (p.length<=4096)&&decide (1<=bE p)&&decide (bE p<=3)&&decide (bZ p<=4294967295)&&decide (bR p<=4611686018427387904)&&decide (bN p+21<=p.length)&&decide (h_ p.length (bE p) (bZ p) (bR p) (bY p)=p)
theorem l9(p:List Nat):pR p=true↔l7 p:=by
 unfold pR l7
 simp only[Bool.and_eq_true,decide_eq_true_eq]
 constructor
 .rintro ⟨⟨⟨⟨⟨⟨⟨a,b⟩,c⟩,d⟩,e⟩,f⟩,g⟩,h⟩
  exact⟨⟨a,b,c,d,e,f,g⟩,h⟩
 .rintro ⟨⟨a,b,c,d,e,f,g⟩,h⟩
  exact⟨⟨⟨⟨⟨⟨⟨a,b⟩,c⟩,d⟩,e⟩,f⟩,g⟩,h⟩
def stP(p:List Nat):Nat:=if iB p then 1 else if pR p then 2 else 3
def qg(p:List Nat):Bool:=!iB p&&pR p
def yw(p:List Nat):Nat:=if qg p then bE p else 0
def yx(p:List Nat):Nat:=if qg p then bZ p else 0
def Az(p:List Nat):Nat:=if qg p then bR p else 0
theorem C_(h:dK p):stP p=1/\yw p=0/\yx p=0/\Az p=0:=by
 have e:=(j5 p).2 h
 simp[stP,yw,yx,Az,qg,e]
theorem FE(h:¬dK p)(hv:l7 p):stP p=2/\yw p=bE p/\yx p=bZ p/\Az p=bR p:=by
 have e:iB p=false:=by cases hb:iB p with|false=>rfl|true=>exact absurd ((j5 p).1 hb) h
 have v:=(l9 p).2 hv
 simp[stP,yw,yx,Az,qg,e,v]
theorem Da(h:¬dK p)(hv:¬l7 p):stP p=3/\yw p=0/\yx p=0/\Az p=0:=by
 have e:iB p=false:=by cases hb:iB p with|false=>rfl|true=>exact absurd ((j5 p).1 hb) h
 have v:pR p=false:=by cases hb:pR p with|false=>rfl|true=>exact absurd ((l9 p).1 hb) hv
 simp[stP,yw,yx,Az,qg,e,v]
def Db(p:List Nat):Prop:=l7 p/\(bE p=1\/bE p=2)
theorem zo(p:List Nat):qg p=true↔l7 p:=by
 unfold qg
 constructor
 .intro h
  simp only[Bool.and_eq_true] at h
  exact(l9 p).1 h.2
 .intro h
  have h1:iB p=false:=by
   cases he:iB p with
   |false=>rfl
   |true=>exact(FD (tV h) ((j5 p).1 he)).elim
  rw[h1,(l9 p).2 h]
  rfl
structure Pgz(M Y:Nat)(pg:Nat->List Nat):Prop where
 len:∀ p,p<M->(pg p).length=Y
 all:∀ p,p<M->bn (pg p)
structure DI(M L Y:Nat)(pg:Nat->List Nat)(pa:Nat->Int)(seq:Nat):Prop where
 pz:Pgz M Y pg
 none:∀ l,l<L->pa l=-1->∀ p,p<M->Db (pg p)->bZ (pg p)≠l
 some:∀ l,l<L->∀ q:Nat,pa l=(q:Int)->q<M/\Db (pg q)/\bZ (pg q)=l/\∀ p,p<M->p≠q->Db (pg p)->bZ (pg p)=l->bR (pg p)<bR (pg q)
 ok:∀ p,p<M->Db (pg p)->bZ (pg p)<L/\bR (pg p)<seq/\(bE (pg p)=1->bN (pg p)+21=Y)/\(bE (pg p)=2->bN (pg p)=0)
 pa0:∀ l,l<L->pa l=-1\/∃ q:Nat,pa l=(q:Int)
def M7(Y:Nat)(pg:Nat->List Nat)(pa:Nat->Int)(l:Nat):List Nat:=if pa l=-1 then List.replicate (Y-21) 0 else if bE (pg (pa l).toNat)=1 then bY (pg (pa l).toNat) else List.replicate (Y-21) 0
theorem DI.start{M L Y:Nat}{pg:Nat->List Nat}(hp:Pgz M Y pg)(h:∀ p,p<M->¬Db (pg p)):DI M L Y pg (λ_=>-1) 0 :=
 ⟨hp,λl _ _ p hp hc=>(h p hp hc).elim,λl _ q e=>by omega,λp hp hc=>(h p hp hc).elim,λl _=>Or.inl rfl⟩
theorem DI.same{M L Y seq seq':Nat}{pg:Nat->List Nat}{pa pa':Nat->Int}(h:DI M L Y pg pa seq)(hs:∀ p,p<M->Db (pg p)->bR (pg p)<seq')(h0:∀ l,l<L->pa' l=-1\/∃ q:Nat,pa' l=(q:Int))(hn:∀ l,l<L->pa' l=-1->∀ p,p<M->Db (pg p)->bZ (pg p)≠l)
 (hb:∀ l,l<L->∀ q:Nat,pa' l=(q:Int)->q<M/\Db (pg q)/\bZ (pg q)=l/\∀ p,p<M->Db (pg p)->bZ (pg p)=l->bR (pg p)<=bR (pg q)):DI M L Y pg pa' seq'/\∀ l,l<L->pa' l=pa l:=by
 have key:∀ l,l<L->pa' l=pa l:=λl hl=>by
  rcases h0 l hl with e|⟨q,e⟩
  .rcases h.pa0 l hl with e2|⟨q2,e2⟩
   .rw[e,e2]
   .obtain⟨g1,g2,g3,g4⟩:=h.some l hl q2 e2
    exact(hn l hl e q2 g1 g2 g3).elim
  .obtain⟨f1,f2,f3,f4⟩:=hb l hl q e
   rcases h.pa0 l hl with e2|⟨q2,e2⟩
   .exact(h.none l hl e2 q f1 f2 f3).elim
   .obtain⟨g1,g2,g3,g4⟩:=h.some l hl q2 e2
    by_cases eq:q=q2
    .rw[e,e2,eq]
    .have a1:=g4 q f1 eq f2 f3
     have a2:=f4 q2 g1 g2 g3
     omega
 refine⟨⟨h.pz,λl hl e=>h.none l hl (by rw[<-key l hl];exact e),λl hl q e=>h.some l hl q (by rw[<-key l hl];exact e),λp hp hc=>?_,λl hl=>by rw[key l hl];exact h.pa0 l hl⟩,key⟩
 obtain⟨g1,g2,g3⟩:=h.ok p hp hc
 exact⟨g1,hs p hp hc,g3⟩
def lbs(lb:Nat->Int):Nat->List Nat
 |0=>[]
 |k+1=>if lb k=-1 then lbs lb k else(lb k).toNat::lbs lb k
def R3(f:Nat->Nat):Nat->Nat
 |0=>0
 |k+1=>R3 f k+f k
def V4(P:Nat)(s:Bk)(k:Nat):Nat:=abu (λi=>s.lb (k*P+i)) P
structure M8 where
 next:Nat->Nat
 bad:Nat->Bool
def W9(P:Nat)(c:M8)(k:Nat):Nat:=if c.bad k=true then 0 else P-c.next k
def pU(P N:Nat)(c:M8):Nat:=R3 (W9 P c) N
def gu(N:Nat)(c:M8):Nat:=R3 (λk=>if c.bad k=true then 1 else 0) N
def aep(P N:Nat)(c:M8):Prop:=∀ i k,i<N->k<N->c.bad i=false->c.bad k=false->0<c.next i->c.next i<P->0<c.next k->c.next k<P->i=k
def Full(P:Nat)(c:M8)(k:Nat):Prop:=c.bad k=false/\c.next k=P
def IJ(P N spare:Nat)(c:M8):Nat:=(spare-gu N c+3)*P
def Room(P N spare k:Nat)(s:Bk)(c:M8):Prop:=IJ P N spare c<=pU P N c\/∃ v,v<N/\Full P c v/\V4 P s v<P/\IJ P N spare c<=pU P N c+(P-V4 P s v)+k
structure Fit(L P N spare:Nat):Prop where
 p1:1<=P
 n4:spare+4<=N
 l1:L<=(N-spare-4)*P
end Go.Proofs.ak
namespace Go.Proofs.ak
open Go.RowKit
theorem IK{n v a k:Nat}(h:a+k<=n):je (List.replicate n v) a k=List.replicate k v:=by
 unfold je
 rw[List.drop_replicate,List.take_replicate]
 congr 1;omega
def oM(P Y:Nat)(bytes:Nat->List Nat)(p:Nat):List Nat:=je (bytes (p/P)) (p%P*Y) Y
theorem Dc{p P N:Nat}(hp:p<N*P):p/P<N/\p%P<P/\p=p/P*P+p%P:=by
 have hP:0<P:=by
  rcases Nat.eq_zero_or_pos P with e|e
  .rw[e,Nat.mul_zero] at hp;omega
  .exact e
 refine⟨?_,Nat.mod_lt _ hP,?_⟩
 .rw[Nat.div_lt_iff_lt_mul hP];exact hp
 .have:=Nat.div_add_mod p P;rw[Nat.mul_comm] at this;omega
theorem M9{n:Nat}:¬Db (List.replicate n 255):=λh=>by
 have:=tV h.1
 rw[List.getElem?_replicate] at this
 split at this<;>simp at this
theorem R4{n v:Nat}(h:v<256):bn (List.replicate n v):=λx hx=>by
 rw[List.eq_of_mem_replicate hx];exact h
structure DV(N P Y L:Nat)(bytes:Nat->List Nat)(c:M8)(k:Bk)(seq:Nat):Prop where
 di:DI (N*P) L Y (oM P Y bytes) k.pa seq
 inv:Inv L (N*P) k
 bl:∀ b,b<N->c.bad b=false->∀ j,c.next b<=j->j<P->je (bytes b) (j*Y) Y=List.replicate Y 255
 one:aep P N c
 nx:∀ b,c.next b<=P
 len:∀ b,b<N->(bytes b).length=P*Y
def aer(P Y:Nat)(bytes:Nat->List Nat)(k:Bk)(l:Nat):List Nat:=M7 Y (oM P Y bytes) k.pa l
end Go.Proofs.ak
namespace Go.Proofs.ak
variable {M:Nat} {lb pg sq:Nat->Nat}
structure NF(M:Nat)(FH:Nat->List Nat)(n:Nat)(lb pg sq:Nat->Nat):Prop where
 rise:∀ i j,i<j->j<n->lb i<lb j
 is:∀ i,i<n->pg i<M/\Db (FH (pg i))/\lb i=bZ (FH (pg i))/\sq i=bR (FH (pg i))/\∀ p,p<M->Db (FH p)->bZ (FH p)=lb i->bR (FH p)<=sq i
 all:∀ p,p<M->Db (FH p)->∃ i,i<n/\lb i=bZ (FH p)
def uH(lb pg:Nat->Nat):Nat->Bk
 |0=>fresh
 |i+1=>Fv (uH lb pg i) (lb i) (pg i)
def qZ(sq:Nat->Nat):Nat->Nat
 |0=>0
 |i+1=>max (qZ sq i) (sq i+1)
theorem M_{sq:Nat->Nat}:∀ n i,i<n->sq i<qZ sq n
 |0,i,h=>by omega
 |n+1,i,h=>by
  rw[qZ]
  by_cases e:i=n
  .subst e;omega
  .have:=M_ (sq:=sq) n i (by omega);omega
theorem AA{sq:Nat->Nat}{m:Nat}:∀ n,(∀ i,i<n->sq i<m)->qZ sq n<=m
 |0,_=>Nat.zero_le _
 |n+1,h=>by
  have:=AA n (λi hi=>h i (by omega))
  have:=h n (by omega)
  rw[qZ];omega
structure BI(L M:Nat)(lb pg:Nat->Nat)(i:Nat)(k:Bk):Prop where
 inv:Inv L M k
 some:∀ l,∀ q:Nat,k.pa l=(q:Int)->∃ j,j<i/\lb j=l/\pg j=q
 all:∀ j,j<i->k.pa (lb j)=(pg j:Int)
theorem BI.zero(L M:Nat)(lb pg:Nat->Nat):BI L M lb pg 0 (uH lb pg 0) :=
 ⟨zh L M,λl q e=>by
  have:(-1:Int)=(q:Int):=e
  omega,λj hj=>by omega⟩
theorem BI.step{L n i:Nat}{FH:Nat->List Nat}(h:NF M FH n lb pg sq)(hL:∀ j,j<n->lb j<L)(hi:i<n)(hb:BI L M lb pg i (uH lb pg i)):qd L M (uH lb pg i) (lb i:Int) (pg i:Int)=(0,uH lb pg (i+1))/\BI L M lb pg (i+1) (uH lb pg (i+1)):=by
 obtain⟨a1,a2,a3,a4,a5⟩:=h.is i hi
 have hl:=hL i hi
 have hpg:∀ j,j<i->pg j≠pg i:=λj hj e=>by
  have:=h.rise j i hj hi
  have:=(h.is j (by omega)).2.2.1
  rw[e] at this
  omega
 have hfree:(uH lb pg i).lb (pg i)=-1:=by
  rcases hb.inv.o (pg i) a1 with e|⟨l,_,_,e⟩
  .exact e
  .obtain⟨j,j1,j2,j3⟩:=hb.some l (pg i) e
   exact(hpg j j1 j3).elim
 have e1:qd L M (uH lb pg i) (lb i:Int) (pg i:Int)=(0,uH lb pg (i+1)):=by
  have q1:uP L (lb i:Int)=true:=decide_eq_true ⟨by omega,by omega⟩
  have q2:uP M (pg i:Int)=true:=decide_eq_true ⟨by omega,by omega⟩
  unfold qd
  rw[if_neg (by rw[q1,q2];simp),Int.toNat_natCast,Int.toNat_natCast,if_neg (by rw[hfree];simp)]
  rfl
 refine⟨e1,?_⟩
 have epa:∀ l,(uH lb pg (i+1)).pa l=if l=lb i then(pg i:Int) else(uH lb pg i).pa l:=λl=>by
  show upd (upd (uH lb pg i).pa (lb i) (-1)) (lb i) (pg i:Int) l=_
  unfold upd
  split<;>rfl
 refine⟨?_,λl q e=>?_,λj hj=>?_⟩
 .exact IC (nM hb.inv hl) hl a1 (CX _ _) (CY hb.inv hl a1 (Or.inl hfree))
 .rw[epa] at e
  by_cases hl2:l=lb i
  .rw[if_pos hl2] at e
   exact⟨i,by omega,hl2.symm,by omega⟩
  .rw[if_neg hl2] at e
   obtain⟨j,j1,j2,j3⟩:=hb.some l q e
   exact⟨j,by omega,j2,j3⟩
 .rw[epa]
  by_cases e:j=i
  .subst e;rw[if_pos rfl]
  .have:=h.rise j i (by omega) hi
   rw[if_neg (by omega)]
   exact hb.all j (by omega)
theorem NF.same{L Y n seq:Nat}{FH:Nat->List Nat}{pa:Nat->Int}(h:NF M FH n lb pg sq)(hd:DI M L Y FH pa seq)(hb:BI L M lb pg n (uH lb pg n)):DI M L Y FH (uH lb pg n).pa (qZ sq n)/\(∀ l,l<L->(uH lb pg n).pa l=pa l)/\qZ sq n<=seq:=by
 have h1:=hd.same (pa':=(uH lb pg n).pa) (seq':=qZ sq n) (λp hp hc=>?_) (λl hl=>?_) (λl hl e p hp hc hlp=>?_) (λl hl q e=>?_)
 .refine⟨h1.1,h1.2,AA n λi hi=>?_⟩
  obtain⟨a1,a2,a3,a4,a5⟩:=h.is i hi
  rw[a4]
  exact(hd.ok _ a1 a2).2.1
 .obtain⟨i,i1,i2⟩:=h.all p hp hc
  have:=(h.is i i1).2.2.2.2 p hp hc i2.symm
  have:=M_ (sq:=sq) n i i1
  omega
 .rcases hb.inv.a l hl with e|⟨p,_,e,_⟩
  .exact Or.inl e
  .exact Or.inr ⟨p,e⟩
 .obtain⟨i,i1,i2⟩:=h.all p hp hc
  have:=hb.all i i1
  rw[i2,hlp,e] at this
  omega
 .obtain⟨j,j1,j2,j3⟩:=hb.some l q e
  obtain⟨a1,a2,a3,a4,a5⟩:=h.is j j1
  rw[j3] at a1 a2 a3 a4
  exact⟨a1,a2,by omega,λp hp hc hlp=>by rw[<-a4];exact a5 p hp hc (by omega)⟩
theorem NF.congr{n:Nat}{p p':Nat->List Nat}(h:NF M p n lb pg sq)(he:∀ i,i<M->p i=p' i):NF M p' n lb pg sq:=by
 refine⟨h.rise,λi hi=>?_,λq hq hc=>?_⟩
 .obtain⟨a1,a2,a3,a4,a5⟩:=h.is i hi
  rw[he _ a1] at a2 a3 a4
  exact⟨a1,a2,a3,a4,λq hq hc hl=>by rw[<-he q hq] at hc hl ⊢;exact a5 q hq hc hl⟩
 .rw[<-he q hq] at hc ⊢
  exact h.all q hq hc
variable {bad:Bool} {p:Int}
structure Bl where
 used:Bool
 live:Int
 cK:Int
def bl0:Bl:=⟨false,0,0⟩
def gB(l:List Bl)(i:Nat):Bl:=l[i]?.getD bl0
def GoodS(p:Int)(b:Bl):Prop:=0<=b.live/\b.live<=p/\0<=b.cK/\b.cK<=1000000000
abbrev Df(p:Int)(b:Bl):Bool:=decide (0<=b.live)&&decide (b.live<=p)&&decide (0<=b.cK)&&decide (b.cK<=1000000000)
theorem q9(p:Int)(b:Bl):Df p b=true↔GoodS p b:=by
 unfold Df GoodS
 simp[and_assoc]
def Dg(l:List Bl)(p:Int):Prop:=∀ i,i<l.length->GoodS p (gB l i)
theorem vE(l:List Bl)(p:Int):l.all (Df p)=true↔Dg l p:=by
 rw[List.all_eq_true]
 constructor
 .intro h i hi
  have:=h l[i] (List.getElem_mem hi)
  rw[q9] at this
  unfold gB
  rw[List.getElem?_eq_getElem hi]
  exact this
 .intro h x hx
  obtain⟨i,hi,rfl⟩:=List.getElem_of_mem hx
  have:=h i hi
  unfold gB at this
  rw[List.getElem?_eq_getElem hi] at this
  rw[q9]
  exact this
def fZ(l:List Bl)(p:Int)(bad:Bool):Nat:=if 64<l.length then 3 else if p<1\/4096<p\/bad=true then 1 else if l.all (Df p)=true then 0 else 1
theorem FI{l:List Bl}(h:64<l.length):fZ l p bad=3:=if_pos h
theorem Dh{l:List Bl}(h:l.length<=64)(h2:p<1\/4096<p\/bad=true):fZ l p bad=1:=by
 unfold fZ
 rw[if_neg (by omega),if_pos h2]
theorem Ky{l:List Bl}(h:l.length<=64)(h2:¬Dg l p):fZ l p bad=1:=by
 unfold fZ
 rw[if_neg (by omega)]
 by_cases h3:p<1\/4096<p\/bad=true
 .rw[if_pos h3]
 .rw[if_neg h3,if_neg (λe=>h2 ((vE l p).1 e))]
theorem vF{l:List Bl}(h:l.length<=64)(h2:¬(p<1\/4096<p\/bad=true))(h3:Dg l p):fZ l p bad=0:=by
 unfold fZ
 rw[if_neg (by omega),if_neg h2,if_pos ((vE l p).2 h3)]
theorem FJ{l:List Bl}(h:fZ l p bad=0):l.length<=64/\1<=p/\p<=4096/\bad=false/\Dg l p:=by
 unfold fZ at h
 by_cases h1:64<l.length
 .rw[if_pos h1] at h;cases h
 rw[if_neg h1] at h
 by_cases h2:p<1\/4096<p\/bad=true
 .rw[if_pos h2] at h;cases h
 rw[if_neg h2] at h
 by_cases h3:l.all (Df p)=true
 .refine⟨by omega,by omega,by omega,?_,(vE l p).1 h3⟩
  cases bad with
  |false=>rfl
  |true=>exact absurd (Or.inr (Or.inr rfl)) h2
 .rw[if_neg h3] at h;cases h
def yC(l:List Bl)(i j:Nat):Prop:=(gB l i).live<(gB l j).live\/((gB l i).live=(gB l j).live/\((gB l i).cK<(gB l j).cK\/((gB l i).cK=(gB l j).cK/\i<j)))
def can(l:List Bl)(p:Int)(i:Nat):Prop:=i<l.length/\(gB l i).used=true/\(gB l i).live<p
def tX(l:List Bl)(p:Int)(o:List Nat):Prop:=(∀ i,i∈o↔can l p i)/\o.Pairwise (yC l)
def V5(l:List Bl)(p:Int)(k:Nat):Prop:=can l p k/\∀ j,can l p j->j=k\/yC l k j
theorem FK(l:List Bl)(i:Nat):¬yC l i i:=by unfold yC;omega
theorem tX.head{l:List Bl}{k:Nat}{r:List Nat}(h:tX l p (k::r)):V5 l p k:=by
 refine⟨(h.1 k).1 (List.mem_cons_self),λj hj=>?_⟩
 rcases List.mem_cons.1 ((h.1 j).2 hj) with e|e
 .exact Or.inl e
 .exact Or.inr ((List.pairwise_cons.1 h.2).1 j e)
theorem tX.none{l:List Bl}(h:tX l p [])(i:Nat):¬can l p i:=λe=>by simpa using (h.1 i).2 e

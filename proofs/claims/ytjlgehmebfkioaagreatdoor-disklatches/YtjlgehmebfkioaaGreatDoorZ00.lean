/- Part of the proof. -/
import Derived.Laws.CopyOwn
set_option linter.unusedVariables false
namespace Go.Proofs.au
def upd{α:Type}(f:Nat->α)(k:Nat)(v:α):Nat->α:=λi=>if i=k then v else f i
theorem upd_same{α:Type}(f:Nat->α)(k:Nat)(v:α):upd f k v k=v:=if_pos rfl
theorem upd_ne{α:Type}(f:Nat->α)(k i:Nat)(v:α)(h:i≠k):upd f k v i=f i:=if_neg h
structure Bk where
 pa:Nat->Int
 lb:Nat->Int
def fresh:Bk:=⟨λ_=>-1,λ_=>-1⟩
structure Inv(L P:Nat)(s:Bk):Prop where
 a:∀ l,l<L->s.pa l=-1\/∃ p:Nat,p<P/\s.pa l=(p:Int)/\s.lb p=(l:Int)
 o:∀ p,p<P->s.lb p=-1\/∃ l:Nat,l<L/\s.lb p=(l:Int)/\s.pa l=(p:Int)
theorem Ae(L P:Nat):Inv L P fresh:=⟨λ_ _=>Or.inl rfl,λ_ _=>Or.inl rfl⟩
def fG(s:Bk)(l:Nat):Bk:=⟨upd s.pa l (-1),if s.pa l=-1 then s.lb else upd s.lb (s.pa l).toNat (-1)⟩
theorem ou{L P:Nat}{s:Bk}(h:Inv L P s){l:Nat}(hl:l<L):Inv L P (fG s l):=by
 unfold fG
 rcases h.a l hl with e|⟨p,hp,e1,e2⟩
 .rw[if_pos e]
  refine⟨λk hk=>?_,λq hq=>?_⟩
  .by_cases hkl:k=l
   .subst hkl;left;exact upd_same _ _ _
   .rcases h.a k hk with e3|⟨p,h1,h2,h3⟩
    .left;show upd s.pa l (-1) k=-1;rw[upd_ne _ _ _ _ hkl];exact e3
    .right;exact⟨p,h1,by show upd s.pa l (-1) k=_;rw[upd_ne _ _ _ _ hkl];exact h2,h3⟩
  .rcases h.o q hq with e3|⟨k,h1,h2,h3⟩
   .exact Or.inl e3
   .have hkl:k≠l:=by rintro rfl;omega
    right;exact⟨k,h1,h2,by show upd s.pa l (-1) k=_;rw[upd_ne _ _ _ _ hkl];exact h3⟩
 .rw[if_neg (by omega),e1,Int.toNat_natCast]
  refine⟨λk hk=>?_,λq hq=>?_⟩
  .by_cases hkl:k=l
   .subst hkl;left;exact upd_same _ _ _
   .rcases h.a k hk with e3|⟨p',h1,h2,h3⟩
    .left;show upd s.pa l (-1) k=-1;rw[upd_ne _ _ _ _ hkl];exact e3
    .have hpp:p'≠p:=by rintro rfl;omega
     right;exact⟨p',h1,by show upd s.pa l (-1) k=_;rw[upd_ne _ _ _ _ hkl];exact h2,by show upd s.lb p (-1) p'=_;rw[upd_ne _ _ _ _ hpp];exact h3⟩
  .by_cases Xj:q=p
   .subst Xj;left;exact upd_same _ _ _
   .rcases h.o q hq with e3|⟨k,h1,h2,h3⟩
    .left;show upd s.lb p (-1) q=-1;rw[upd_ne _ _ _ _ Xj];exact e3
    .have hkl:k≠l:=by rintro rfl;omega
     right;exact⟨k,h1,by show upd s.lb p (-1) q=_;rw[upd_ne _ _ _ _ Xj];exact h2,by show upd s.pa l (-1) k=_;rw[upd_ne _ _ _ _ hkl];exact h3⟩
theorem El(s:Bk)(l:Nat):(fG s l).pa l=-1:=upd_same _ _ _
theorem JA{L P:Nat}{s:Bk}(h:Inv L P s){l p:Nat}(hl:l<L)(hp:p<P)(h1:s.pa l=-1)(h2:s.lb p=-1):Inv L P ⟨upd s.pa l (p:Int),upd s.lb p (l:Int)⟩:=by
 refine⟨λk hk=>?_,λq hq=>?_⟩
 .by_cases hkl:k=l
  .subst hkl;right;exact⟨p,hp,upd_same _ _ _,upd_same _ _ _⟩
  .rcases h.a k hk with e3|⟨p',g1,g2,g3⟩
   .left;show upd s.pa l (p:Int) k=-1;rw[upd_ne _ _ _ _ hkl];exact e3
   .have hpp:p'≠p:=by rintro rfl;omega
    right;exact⟨p',g1,by show upd s.pa l (p:Int) k=_;rw[upd_ne _ _ _ _ hkl];exact g2,by show upd s.lb p (l:Int) p'=_;rw[upd_ne _ _ _ _ hpp];exact g3⟩
 .by_cases Xj:q=p
  .subst Xj;right;exact⟨l,hl,upd_same _ _ _,upd_same _ _ _⟩
  .rcases h.o q hq with e3|⟨k,g1,g2,g3⟩
   .left;show upd s.lb p (l:Int) q=-1;rw[upd_ne _ _ _ _ Xj];exact e3
   .have hkl:k≠l:=by rintro rfl;omega
    right;exact⟨k,g1,by show upd s.lb p (l:Int) q=_;rw[upd_ne _ _ _ _ Xj];exact g2,by show upd s.pa l (p:Int) k=_;rw[upd_ne _ _ _ _ hkl];exact g3⟩
theorem Em{L P:Nat}{s:Bk}(h:Inv L P s){l p:Nat}(hl:l<L)(hp:p<P)(hf:s.lb p=-1\/s.lb p=(l:Int)):(fG s l).lb p=-1:=by
 unfold fG
 rcases hf with e|e
 .show (if s.pa l=-1 then s.lb else upd s.lb (s.pa l).toNat (-1)) p=-1
  split
  .exact e
  .unfold upd;split
   .rfl
   .exact e
 .rcases h.o p hp with e2|⟨k,h1,h2,h3⟩
  .omega
  .obtain rfl:k=l:=by omega
   show (if s.pa k=-1 then s.lb else upd s.lb (s.pa k).toNat (-1)) p=-1
   rw[if_neg (by omega),h3,Int.toNat_natCast,upd_same]
def r_(n:Nat)(x:Int):Bool:=decide (0<=x/\x<(n:Int))
def jS(s:Bk)(l p:Nat):Bk:=⟨upd (fG s l).pa l (p:Int),upd (fG s l).lb p (l:Int)⟩
def pq(L P:Nat)(s:Bk)(x y:Int):Nat × Bk :=
 if r_ L x=false\/r_ P y=false then(1,s) else if s.lb y.toNat≠-1/\s.lb y.toNat≠x then(10,s) else(0,jS s x.toNat y.toNat)
theorem BH{n:Nat}{x:Int}(h:r_ n x=true):∃ k:Nat,x=(k:Int)/\k<n:=by
 have h:=of_decide_eq_true h
 exact⟨x.toNat,by omega,by omega⟩
theorem su{n k:Nat}(h:k<n):r_ n (k:Int)=true:=decide_eq_true ⟨by omega,by omega⟩
theorem G7(L P:Nat)(s:Bk)(x y:Int) :
 ((r_ L x=false\/r_ P y=false)/\pq L P s x y=(1,s)) \/
 ∃ l p:Nat,x=(l:Int)/\y=(p:Int)/\l<L/\p<P/\((s.lb p≠-1/\s.lb p≠(l:Int)/\pq L P s x y=(10,s))\/((s.lb p=-1\/s.lb p=(l:Int))/\pq L P s x y=(0,jS s l p))):=by
 unfold pq
 by_cases h1:r_ L x=false\/r_ P y=false
 .exact Or.inl ⟨h1,if_pos h1⟩
 .right
  rw[if_neg h1]
  obtain⟨l,rfl,hl⟩:=BH (n:=L) (x:=x) (by cases h:r_ L x with|true=>rfl|false=>exact absurd (Or.inl h) h1)
  obtain⟨p,rfl,hp⟩:=BH (n:=P) (x:=y) (by cases h:r_ P y with|true=>rfl|false=>exact absurd (Or.inr h) h1)
  rw[Int.toNat_natCast,Int.toNat_natCast]
  refine⟨l,p,rfl,rfl,hl,hp,?_⟩
  by_cases h2:s.lb p≠-1/\s.lb p≠(l:Int)
  .exact Or.inl ⟨h2.1,h2.2,if_pos h2⟩
  .exact Or.inr ⟨by omega,if_neg h2⟩
theorem En{L P:Nat}{s:Bk}(h:Inv L P s){l p:Nat}(hl:l<L)(hp:p<P)(hf:s.lb p=-1\/s.lb p=(l:Int)):Inv L P (jS s l p) :=
 JA (ou h hl) hl hp (El s l) (Em h hl hp hf)
theorem JB(s:Bk)(l p:Nat):(jS s l p).pa=upd s.pa l (p:Int):=by
 funext i
 show upd (upd s.pa l (-1)) l (p:Int) i=upd s.pa l (p:Int) i
 unfold upd
 split<;>rfl
theorem Af{L P:Nat}{s:Bk}(h:Inv L P s){l p q:Nat}(hl:l<L)(hq:s.pa l=(q:Int))(hn:q≠p):(jS s l p).lb q=-1:=by
 show upd (fG s l).lb p (l:Int) q=-1
 rw[upd_ne _ _ _ _ hn]
 show (if s.pa l=-1 then s.lb else upd s.lb (s.pa l).toNat (-1)) q=-1
 rw[if_neg (by omega),hq,Int.toNat_natCast,upd_same]
def eY(f:Nat->Int):Nat->Nat
 |0=>0
 |k+1=>eY f k+if f k=-1 then 0 else 1
theorem BJ(f:Nat->Int):∀ k,eY f k<=k
 |0=>Nat.le_refl _
 |k+1=>by have:=BJ f k;unfold eY;split<;>omega
def G8(x:Nat):Nat:=if x%2=1 then(x/2) ^^^ 3988292384 else x/2
def Sk:Nat->Nat->Nat
 |0,x=>x
 |n+1,x=>G8 (Sk n x)
def NY(s b:Nat):Nat:=Sk 8 (s ^^^ b)
def BK(s:Nat)(l:List Nat):Nat:=l.foldl NY s
def Ag(l:List Nat):Nat:=4294967295 ^^^ BK 4294967295 l
theorem Sn{x:Nat}(h:x<4294967296):G8 x<4294967296:=by
 unfold G8
 split
 .exact Nat.xor_lt_two_pow (n:=32) (by omega) (by decide)
 .omega
theorem BP{x:Nat}(h:x<4294967296):∀ n,Sk n x<4294967296
 |0=>h
 |n+1=>Sn (BP h n)
theorem NZ{a b:Nat}(ha:a<4294967296)(hb:b<4294967296):a ^^^ b<4294967296:=Nat.xor_lt_two_pow (n:=32) ha hb
theorem Sq{s b:Nat}(h:s<4294967296)(hb:b<4294967296):NY s b<4294967296:=BP (NZ h hb) 8
def aZ(l:List Nat):Prop:=∀ x∈l,x<256
theorem JD{s:Nat}(hs:s<4294967296):∀ l:List Nat,aZ l->BK s l<4294967296:=by
 intro l
 induction l generalizing s with
 |nil=>intro _;exact hs
 |cons b r ih=>intro h;exact ih (Sq hs (by have:=h b (by simp);omega)) (λx hx=>h x (by simp[hx]))
theorem Lc(s:Nat)(l:List Nat)(b:Nat):BK s (l++[b])=NY (BK s l) b:=by simp[BK,List.foldl_append]
theorem aZ.take{l:List Nat}(h:aZ l)(k:Nat):aZ (l.take k):=λx hx=>h x (List.mem_of_mem_take hx)
theorem aZ.at{l:List Nat}(h:aZ l)(k:Nat):l[k]?.getD 0<256:=by
 by_cases hk:k<l.length
 .rw[List.getElem?_eq_getElem hk];exact h _ (List.getElem_mem _)
 .rw[List.getElem?_eq_none (by omega)];decide
theorem wo(l:List Nat)(k:Nat)(h:k<l.length):l.take (k+1)=l.take k++[l[k]?.getD 0]:=by
 rw[List.take_succ_eq_append_getElem h,List.getElem?_eq_getElem h];rfl
theorem N7{l:List Nat}(h:aZ l):Ag l<4294967296:=NZ (by decide) (JD (by decide) l h)
def low:Nat->Nat->List Nat
 |0,_=>[]
 |k+1,x=>x%256::low k (x/256)
def num:List Nat->Nat
 | []=>0
 |b::r=>b+256*num r
theorem dz:∀ k x,(low k x).length=k
 |0,_=>rfl
 |k+1,x=>by simp[low,dz k]
theorem qG:∀ k x,aZ (low k x)
 |0,_=>λ_ h=>by simp[low] at h
 |k+1,x=>λy h=>by
  simp only[low,List.mem_cons] at h
  rcases h with rfl|h
  .omega
  .exact qG k _ y h
theorem Eo:∀ k,low k 0=List.replicate k 0
 |0=>rfl
 |k+1=>by rw[low,Eo k,List.replicate_succ]
theorem N8(k:Nat):2 ^ (8*(k+1))=256*2 ^ (8*k):=by rw[show 8*(k+1)=8+8*k by omega,Nat.pow_add]
theorem qb:∀ l,aZ l->num l<2 ^ (8*l.length)
 | [],_=>by decide
 |b::r,h=>by
  have h1:=h b (by simp)
  have h2:=qb r (λx hx=>h x (by simp[hx]))
  rw[List.length_cons,N8]
  show b+256*num r<_
  omega
theorem vJ:∀ k x,x<2 ^ (8*k)->num (low k x)=x
 |0,x,h=>by show 0=x;simp at h;omega
 |k+1,x,h=>by
  rw[N8] at h
  have e:=vJ k (x/256) (by omega)
  show x%256+256*num (low k (x/256))=x
  rw[e];omega
theorem Ep:∀ l b,num (l++[b])=num l+b*2 ^ (8*l.length)
 | [],b=>by simp[num]
 |a::r,b=>by
  show a+256*num (r++[b])=a+256*num r+_
  rw[Ep r b,List.length_cons,N8,Nat.mul_left_comm]
  omega
theorem Xk(l:List Nat)(b:Nat)(h:aZ l):num l ||| b*2 ^ (8*l.length)=num (l++[b]):=by
 rw[Ep,Nat.or_comm,Nat.mul_comm b,<-Nat.two_pow_add_eq_or_of_lt (qb l h)]
 omega
theorem Er:∀ k x,low (k+1) x=low k x++[x/2 ^ (8*k)%256]
 |0,x=>by simp[low]
 |k+1,x=>by
  show x%256::low (k+1) (x/256)=x%256::(low k (x/256)++_)
  rw[Er k,Nat.div_div_eq_div_mul,N8]
def mY(kind gq seq len:Nat):List Nat:=[165,kind]++(low 4 gq++(low 8 seq++low 2 len))
def uW(n:Nat)(data:List Nat):List Nat:=data++(List.replicate (n-21-data.length) 0++[90])
def fF(n sum kind gq seq:Nat)(data:List Nat):List Nat:=mY kind gq seq data.length++(low 4 sum++uW n data)
def aR(n kind gq seq:Nat)(data:List Nat):List Nat:=fF n (Ag (fF n 0 kind gq seq data)) kind gq seq data
structure D6(n kind gq seq len:Nat):Prop where
 n0:24<=n
 n1:n<=4096
 k0:1<=kind
 k1:kind<=3
 l1:gq<=4294967295
 s1:seq<=4611686018427387904
 d1:len+21<=n
theorem lF(kind gq seq len:Nat):(mY kind gq seq len).length=16:=by simp[mY,dz]
theorem Ld(n:Nat)(data:List Nat)(h:data.length+21<=n):(uW n data).length=n-20:=by simp[uW];omega
theorem Le(n sum kind gq seq:Nat)(data:List Nat)(h:data.length+21<=n):(fF n sum kind gq seq data).length=n:=by
 unfold fF
 rw[List.length_append,List.length_append,lF,dz,Ld n data h]
 omega
theorem gL(n kind gq seq:Nat)(data:List Nat)(h:data.length+21<=n):(aR n kind gq seq data).length=n:=Le n _ kind gq seq data h
theorem aZ.app{a b:List Nat}(ha:aZ a)(hb:aZ b):aZ (a++b):=λx hx=>by
 rcases List.mem_append.1 hx with h|h
 .exact ha x h
 .exact hb x h
theorem Ah(n sum kind gq seq:Nat)(data:List Nat)(hk:kind<256)(hd:aZ data):aZ (fF n sum kind gq seq data):=by
 unfold fF mY uW
 refine aZ.app (aZ.app (λx hx=>?_) (aZ.app (qG _ _) (aZ.app (qG _ _) (qG _ _)))) (aZ.app (qG _ _) (aZ.app hd (aZ.app (λx hx=>?_) (λx hx=>?_))))
 .simp at hx;omega
 .simp at hx;omega
 .simp at hx;omega
theorem jA(n kind gq seq:Nat)(data:List Nat)(hk:kind<256)(hd:aZ data):aZ (aR n kind gq seq data):=Ah n _ kind gq seq data hk hd
def dV(p:List Nat)(a k:Nat):List Nat:=(p.drop a).take k
def aQ(p:List Nat):Nat:=p[1]?.getD 0
def bR(p:List Nat):Nat:=num (dV p 2 4)
def bN(p:List Nat):Nat:=num (dV p 6 8)
def aW(p:List Nat):Nat:=num (dV p 14 2)
def aT(p:List Nat):List Nat:=dV p 20 (aW p)
theorem abl(x:Nat):low 2 x=[x%256,x/256%256]:=rfl
theorem abm(x:Nat):low 4 x=[x%256,x/256%256,x/256/256%256,x/256/256/256%256]:=rfl
theorem abn(x:Nat):low 8 x=[x%256,x/256%256,x/256/256%256,x/256/256/256%256,x/256/256/256/256%256,x/256/256/256/256/256%256,x/256/256/256/256/256/256%256,x/256/256/256/256/256/256/256%256]:=rfl
theorem Lf(n sum kind gq seq:Nat)(data:List Nat):aQ (fF n sum kind gq seq data)=kind:=by
 simp[aQ,fF,mY]
theorem Lg(n sum kind gq seq:Nat)(data:List Nat):dV (fF n sum kind gq seq data) 2 4=low 4 gq:=by
 simp[dV,fF,mY,dz]
theorem Lh(n sum kind gq seq:Nat)(data:List Nat):dV (fF n sum kind gq seq data) 6 8=low 8 seq:=by
 unfold dV fF mY
 rw[abm,abn,abl]
 rfl
theorem G9(n sum kind gq seq:Nat)(data:List Nat):dV (fF n sum kind gq seq data) 14 2=low 2 data.length:=by
 unfold dV fF mY
 rw[abm,abn,abl]
 rfl
theorem Li(n sum kind gq seq:Nat)(data:List Nat):(fF n sum kind gq seq data).drop 20=uW n data:=by
 unfold fF
 rw[<-List.append_assoc,List.drop_append_of_le_length (by rw[List.length_append,lF,dz];omega),List.drop_of_length_le (by rw[List.length_append,lF,dz];omega),List.nil_append]
theorem ny{n kind gq seq:Nat}{data:List Nat}(h:D6 n kind gq seq data.length) :
 aQ (aR n kind gq seq data)=kind/\bR (aR n kind gq seq data)=gq/\bN (aR n kind gq seq data)=seq/\aW (aR n kind gq seq data)=data.length/\aT (aR n kind gq seq data)=data:=by
 have e4:aW (aR n kind gq seq data)=data.length:=by
  unfold aW aR
  rw[G9]
  exact vJ 2 _ (by have:=h.d1;have:=h.n1;show _<65536;omega)
 refine⟨Lf ..,?_,?_,e4,?_⟩
 .unfold bR aR
  rw[Lg]
  exact vJ 4 _ (by have:=h.l1;show _<4294967296;omega)
 .unfold bN aR
  rw[Lh]
  exact vJ 8 _ (by have:=h.s1;show _<18446744073709551616;omega)
 .unfold aT
  rw[e4]
  unfold dV aR
  rw[Li]
  unfold uW
  rw[List.take_append_of_le_length (by omega),List.take_of_length_le (by omega)]
def gu(p:List Nat):Prop:=D6 p.length (aQ p) (bR p) (bN p) (aW p)/\aR p.length (aQ p) (bR p) (bN p) (aT p)=p
theorem valid_pack{n kind gq seq:Nat}{data:List Nat}(h:D6 n kind gq seq data.length):gu (aR n kind gq seq data):=by
 obtain⟨e1,e2,e3,e4,e5⟩:=ny h
 unfold gu
 rw[e1,e2,e3,e4,e5,gL n kind gq seq data h.d1]
 exact⟨h,rfl⟩
def dI(p:List Nat):Prop:=0<p.length/\∀ i,i<p.length->p[i]?.getD 0=255
theorem wu(n kind gq seq:Nat)(data:List Nat):(aR n kind gq seq data)[0]?.getD 0=165:=by simp[aR,fF,mY]
theorem Lj{n kind gq seq:Nat}{data:List Nat}(h:data.length+21<=n):(aR n kind gq seq data)[n-1]?.getD 0=90:=by
 have e:aR n kind gq seq data=(mY kind gq seq data.length++(low 4 (Ag (fF n 0 kind gq seq data))++(data++List.replicate (n-21-data.length) 0)))++[90]:=by
  simp[aR,fF,uW]
 have hl:(mY kind gq seq data.length++(low 4 (Ag (fF n 0 kind gq seq data))++(data++List.replicate (n-21-data.length) 0))).length=n-1:=by
  simp[lF,dz];omega
 rw[e,List.getElem?_append_right (by omega),hl]
 simp
theorem nD{p:List Nat}(h:gu p):p[0]?.getD 0=165:=by
 have:=wu p.length (aQ p) (bR p) (bN p) (aT p)
 rwa [h.2] at this
theorem gN{p:List Nat}(h:aW p+21<=p.length):(aT p).length=aW p:=by
 unfold aT dV
 rw[List.length_take,List.length_drop]
 omega
theorem G_{p:List Nat}(h:gu p):p[p.length-1]?.getD 0=90:=by
 have:=Lj (n:=p.length) (kind:=aQ p) (gq:=bR p) (seq:=bN p) (data:=aT p) (by rw[gN h.1.d1];exact h.1.d1)
 rwa [h.2] at this
theorem He{p:List Nat}(h:p[0]?.getD 0=165):¬dI p:=λe=>by
 have:=e.2 0 e.1
 rw[h] at this
 cases this
def wE(p:List Nat)(k:Nat):List Nat:=p.take k++List.replicate (p.length-k) 255
theorem Ll(p:List Nat)(k:Nat)(h:k<=p.length):(wE p k).length=p.length:=by simp[wE];omega
theorem Es{p:List Nat}{k:Nat}(h1:k<p.length):¬gu (wE p k):=by
 intro h
 have e:=G_ h
 rw[Ll p k (by omega)] at e
 unfold wE at e
 rw[List.getElem?_append_right (by rw[List.length_take];omega),List.getElem?_replicate,if_pos (by rw[List.length_take];omega)] at e
 cases e
def iR(p:List Nat):Bool:=p.length != 0&&p.all (·==255)
theorem kQ(p:List Nat):iR p=true↔dI p:=by
 unfold iR dI
 simp only[Bool.and_eq_true,bne_iff_ne,ne_eq,List.all_eq_true,beq_iff_eq]
 constructor
 .rintro ⟨h1,h2⟩
  refine⟨by omega,λi hi=>?_⟩
  rw[List.getElem?_eq_getElem hi]
  exact h2 _ (List.getElem_mem hi)
 .rintro ⟨h1,h2⟩
  refine⟨by omega,λx hx=>?_⟩
  obtain⟨i,hi,rfl⟩:=List.mem_iff_getElem.1 hx
  have:=h2 i hi
  rw[List.getElem?_eq_getElem hi] at this
  exact this
def qc(p:List Nat):Bool:=decide (24<=p.length)&&decide (p.length<=4096)&&decide (1<=aQ p)&&decide (aQ p<=3)&&decide (bR p<=4294967295)&&decide (bN p<=4611686018427387904)&&decide (aW p+21<=p.length)&&decide (aR p.length (aQ p) (bR p) (bN p) (aT p)=p)
theorem mE(p:List Nat):qc p=true↔gu p:=by
 unfold qc gu
 simp only[Bool.and_eq_true,decide_eq_true_eq]
 constructor
 .rintro ⟨⟨⟨⟨⟨⟨⟨a,b⟩,c⟩,d⟩,e⟩,f⟩,g⟩,h⟩
  exact⟨⟨a,b,c,d,e,f,g⟩,h⟩
 .rintro ⟨⟨a,b,c,d,e,f,g⟩,h⟩
  exact⟨⟨⟨⟨⟨⟨⟨a,b⟩,c⟩,d⟩,e⟩,f⟩,g⟩,h⟩
def stP(p:List Nat):Nat:=if iR p then 1 else if qc p then 2 else 3
def qH(p:List Nat):Bool:=!iR p&&qc p
def zG(p:List Nat):Nat:=if qH p then aQ p else 0
def zH(p:List Nat):Nat:=if qH p then bR p else 0
def BS(p:List Nat):Nat:=if qH p then bN p else 0
theorem Et{p:List Nat}(h:dI p):stP p=1/\zG p=0/\zH p=0/\BS p=0:=by
 have e:=(kQ p).2 h
 simp[stP,zG,zH,BS,qH,e]
theorem Hf{p:List Nat}(h:¬dI p)(hv:gu p):stP p=2/\zG p=aQ p/\zH p=bR p/\BS p=bN p:=by
 have e:iR p=false:=by cases hb:iR p with|false=>rfl|true=>exact absurd ((kQ p).1 hb) h
 have v:=(mE p).2 hv
 simp[stP,zG,zH,BS,qH,e,v]
theorem Eu{p:List Nat}(h:¬dI p)(hv:¬gu p):stP p=3/\zG p=0/\zH p=0/\BS p=0:=by
 have e:iR p=false:=by cases hb:iR p with|false=>rfl|true=>exact absurd ((kQ p).1 hb) h
 have v:qc p=false:=by cases hb:qc p with|false=>rfl|true=>exact absurd ((mE p).1 hb) hv
 simp[stP,zG,zH,BS,qH,e,v]
def pE(p:List Nat):Prop:=gu p/\(aQ p=1\/aQ p=2)
theorem Ai(p:List Nat):qH p=true↔gu p:=by
 unfold qH
 constructor
 .intro h
  simp only[Bool.and_eq_true] at h
  exact(mE p).1 h.2
 .intro h
  have h1:iR p=false:=by
   cases he:iR p with
   |false=>rfl
   |true=>exact(He (nD h) ((kQ p).1 he)).elim
  rw[h1,(mE p).2 h]
  rfl
structure RZ(M Y:Nat)(pg:Nat->List Nat):Prop where
 len:∀ p,p<M->(pg p).length=Y
 all:∀ p,p<M->aZ (pg p)
structure DI(M L Y:Nat)(pg:Nat->List Nat)(pa:Nat->Int)(seq:Nat):Prop where
 pz:RZ M Y pg
 none:∀ l,l<L->pa l=-1->∀ p,p<M->pE (pg p)->bR (pg p)≠l
 some:∀ l,l<L->∀ q:Nat,pa l=(q:Int)->q<M/\pE (pg q)/\bR (pg q)=l/\∀ p,p<M->p≠q->pE (pg p)->bR (pg p)=l->bN (pg p)<bN (pg q)
 ok:∀ p,p<M->pE (pg p)->bR (pg p)<L/\bN (pg p)<seq/\(aQ (pg p)=1->aW (pg p)+21=Y)/\(aQ (pg p)=2->aW (pg p)=0)
 Sr:∀ l,l<L->pa l=-1\/∃ q:Nat,pa l=(q:Int)
def fJ(Y:Nat)(pg:Nat->List Nat)(pa:Nat->Int)(l:Nat):List Nat:=if pa l=-1 then List.replicate (Y-21) 0 else if aQ (pg (pa l).toNat)=1 then aT (pg (pa l).toNat) else List.replicate (Y-21) 0
theorem DI.start{M L Y:Nat}{pg:Nat->List Nat}(hp:RZ M Y pg)(h:∀ p,p<M->¬pE (pg p)):DI M L Y pg (λ_=>-1) 0 :=
 ⟨hp,λl _ _ p hp hc=>(h p hp hc).elim,λl _ q e=>by omega,λp hp hc=>(h p hp hc).elim,λl _=>Or.inl rfl⟩
theorem RZ.set{M Y:Nat}{pg:Nat->List Nat}(h:RZ M Y pg){q:Nat}{x:List Nat}(hx:x.length=Y)(ha:aZ x):RZ M Y (upd pg q x):=by
 refine⟨λp hp=>?_,λp hp=>?_⟩
 .unfold upd;split
  .exact hx
  .exact h.len p hp
 .unfold upd;split
  .exact ha
  .exact h.all p hp
theorem DI.junk{M L Y seq:Nat}{pg:Nat->List Nat}{pa:Nat->Int}(h:DI M L Y pg pa seq){q:Nat}{x:List Nat}(hx:x.length=Y)(ha:aZ x)(hn:¬pE x)(hq:¬pE (pg q)):DI M L Y (upd pg q x) pa seq/\∀ l,l<L->fJ Y (upd pg q x) pa l=fJ Y pg pa l:=by
 have hc:∀ p,pE (upd pg q x p)->p≠q/\pE (pg p):=λp hp=>by
  by_cases e:p=q
  .subst e;rw[upd_same] at hp;exact(hn hp).elim
  .rw[upd_ne _ _ _ _ e] at hp;exact⟨e,hp⟩
 refine⟨⟨h.pz.set hx ha,λl hl e p hp hcp=>?_,λl hl k e=>?_,λp hp hcp=>?_,h.Sr⟩,λl hl=>?_⟩
 .obtain⟨e1,e2⟩:=hc p hcp
  rw[upd_ne _ _ _ _ e1];exact h.none l hl e p hp e2
 .obtain⟨h1,h2,h3,h4⟩:=h.some l hl k e
  have hk:k≠q:=by rintro rfl;exact hq h2
  rw[upd_ne _ _ _ _ hk]
  refine⟨h1,h2,h3,λp hp hpk hcp hlp=>?_⟩
  obtain⟨e1,e2⟩:=hc p hcp
  rw[upd_ne _ _ _ _ e1] at hlp ⊢
  exact h4 p hp hpk e2 hlp
 .obtain⟨e1,e2⟩:=hc p hcp
  rw[upd_ne _ _ _ _ e1];exact h.ok p hp e2
 .rcases h.Sr l hl with e|⟨k,e⟩
  .unfold fJ;rw[if_pos e,if_pos e]
  .have hk:k≠q:=by rintro rfl;exact hq (h.some l hl _ e).2.1
   unfold fJ
   rw[e,Int.toNat_natCast,upd_ne _ _ _ _ hk]
theorem DI.put{M L Y seq kind l q:Nat}{pg:Nat->List Nat}{pa:Nat->Int}{data:List Nat}(h:DI M L Y pg pa seq)(hF:D6 Y kind l seq data.length)(hk:kind=1\/kind=2)(hd1:kind=1->data.length+21=Y)(hd2:kind=2->data=[])(hA:aZ data)(hl:l<L)(hq:q<M)(hn:¬pE (pg q)) :
 DI M L Y (upd pg q (aR Y kind l seq data)) (upd pa l (q:Int)) (seq+1)/\∀ k,k<L->fJ Y (upd pg q (aR Y kind l seq data)) (upd pa l (q:Int)) k=if k=l then(if kind=1 then data else List.replicate (Y-21) 0) else fJ Y pg pa k:=by
 have hd:data.length+21<=Y:=hF.d1
 have hlen:(aR Y kind l seq data).length=Y:=gL Y kind l seq data hd
 have hv:gu (aR Y kind l seq data):=valid_pack hF
 obtain⟨f1,f2,f3,f4,f5⟩:aQ (aR Y kind l seq data)=kind/\bR (aR Y kind l seq data)=l/\bN (aR Y kind l seq data)=seq/\aW (aR Y kind l seq data)=data.length/\aT (aR Y kind l seq data)=data:=ny hF
 have hcn:pE (aR Y kind l seq data):=⟨hv,by rw[f1];exact hk⟩
 generalize hX:aR Y kind l seq data=X at *
 have hXa:aZ X:=by rw[<-hX];exact jA Y kind l seq data (by have:=hF.k1;omega) hA
 refine⟨⟨h.pz.set hlen hXa,λk hk e p hp hcp=>?_,λk hk r e=>?_,λp hp hcp=>?_,λk hk=>?_⟩,λk hk=>?_⟩
 .have hkl:k≠l:=by rintro rfl;rw[upd_same] at e;omega
  rw[upd_ne _ _ _ _ hkl] at e
  by_cases ep:p=q
  .subst ep;rw[upd_same,f2];exact λe'=>hkl e'.symm
  .rw[upd_ne _ _ _ _ ep] at hcp ⊢;exact h.none k hk e p hp hcp
 .by_cases hkl:k=l
  .subst hkl
   rw[upd_same] at e
   have er:r=q:=by omega
   subst er
   rw[upd_same]
   refine⟨hq,hcn,f2,λp hp hpr hcp hlp=>?_⟩
   rw[upd_ne _ _ _ _ hpr] at hcp ⊢
   rw[f3]
   exact(h.ok p hp hcp).2.1
  .rw[upd_ne _ _ _ _ hkl] at e
   obtain⟨h1,h2,h3,h4⟩:=h.some k hk r e
   have hrq:r≠q:=by rintro rfl;exact hn h2
   rw[upd_ne _ _ _ _ hrq]
   refine⟨h1,h2,h3,λp hp hpr hcp hlp=>?_⟩
   by_cases ep:p=q
   .subst ep;rw[upd_same,f2] at hlp;exact(hkl hlp.symm).elim
   .rw[upd_ne _ _ _ _ ep] at hcp hlp ⊢;exact h4 p hp hpr hcp hlp
 .by_cases ep:p=q
  .subst ep
   rw[upd_same,f1,f2,f3,f4]
   exact⟨hl,by omega,hd1,λe=>by rw[hd2 e];rfl⟩
  .rw[upd_ne _ _ _ _ ep] at hcp ⊢
   obtain⟨g1,g2,g3⟩:=h.ok p hp hcp
   exact⟨g1,by omega,g3⟩
 .by_cases hkl:k=l
  .subst hkl;right;exact⟨q,upd_same _ _ _⟩
  .rw[upd_ne _ _ _ _ hkl];exact h.Sr k hk
 .by_cases hkl:k=l
  .subst hkl
   rw[if_pos rfl]
   unfold fJ
   rw[upd_same,if_neg (by omega),Int.toNat_natCast,upd_same,f1,f5]
  .rw[if_neg hkl]
   rcases h.Sr k hk with e|⟨r,e⟩
   .unfold fJ;rw[upd_ne _ _ _ _ hkl,if_pos e,if_pos e]
   .have hrq:r≠q:=by rintro rfl;exact hn (h.some k hk _ e).2.1
    unfold fJ
    rw[upd_ne _ _ _ _ hkl,e,Int.toNat_natCast,upd_ne _ _ _ _ hrq]
theorem DI.lose{M L Y seq:Nat}{pg Lm:Nat->List Nat}{pa:Nat->Int}(h:DI M L Y pg pa seq)(hp:RZ M Y Lm)(hs:∀ p,p<M->Lm p=pg p\/¬pE (Lm p))(hk:∀ l,l<L->∀ q:Nat,pa l=(q:Int)->Lm q=pg q):DI M L Y Lm pa seq/\∀ l,l<L->fJ Y Lm pa l=fJ Y pg pa l:=by
 have hc:∀ p,p<M->pE (Lm p)->Lm p=pg p:=λp hp hcp=>(hs p hp).elim id (λe=>(e hcp).elim)
 refine⟨⟨hp,λl hl e p hp hcp=>?_,λl hl k e=>?_,λp hp hcp=>?_,h.Sr⟩,λl hl=>?_⟩
 .have e1:=hc p hp hcp
  rw[e1] at hcp ⊢;exact h.none l hl e p hp hcp
 .obtain⟨h1,h2,h3,h4⟩:=h.some l hl k e
  rw[hk l hl k e]
  refine⟨h1,h2,h3,λp hp hpk hcp hlp=>?_⟩
  have e1:=hc p hp hcp
  rw[e1] at hcp hlp ⊢
  exact h4 p hp hpk hcp hlp
 .have e1:=hc p hp hcp
  rw[e1] at hcp ⊢;exact h.ok p hp hcp
 .rcases h.Sr l hl with e|⟨k,e⟩
  .unfold fJ;rw[if_pos e,if_pos e]
  .unfold fJ;rw[e,Int.toNat_natCast,hk l hl k e]
theorem DI.same{M L Y seq seq':Nat}{pg:Nat->List Nat}{pa pa':Nat->Int}(h:DI M L Y pg pa seq)(hs:∀ p,p<M->pE (pg p)->bN (pg p)<seq')(h0:∀ l,l<L->pa' l=-1\/∃ q:Nat,pa' l=(q:Int))(hn:∀ l,l<L->pa' l=-1->∀ p,p<M->pE (pg p)->bR (pg p)≠l)
 (hb:∀ l,l<L->∀ q:Nat,pa' l=(q:Int)->q<M/\pE (pg q)/\bR (pg q)=l/\∀ p,p<M->pE (pg p)->bR (pg p)=l->bN (pg p)<=bN (pg q)):DI M L Y pg pa' seq'/\∀ l,l<L->pa' l=pa l:=by
 have key:∀ l,l<L->pa' l=pa l:=λl hl=>by
  rcases h0 l hl with e|⟨q,e⟩
  .rcases h.Sr l hl with e2|⟨q2,e2⟩
   .rw[e,e2]
   .obtain⟨g1,g2,g3,g4⟩:=h.some l hl q2 e2
    exact(hn l hl e q2 g1 g2 g3).elim
  .obtain⟨f1,f2,f3,f4⟩:=hb l hl q e
   rcases h.Sr l hl with e2|⟨q2,e2⟩
   .exact(h.none l hl e2 q f1 f2 f3).elim
   .obtain⟨g1,g2,g3,g4⟩:=h.some l hl q2 e2
    by_cases eq:q=q2
    .rw[e,e2,eq]
    .have a1:=g4 q f1 eq f2 f3
     have a2:=f4 q2 g1 g2 g3
     omega
 refine⟨⟨h.pz,λl hl e=>h.none l hl (by rw[<-key l hl];exact e),λl hl q e=>h.some l hl q (by rw[<-key l hl];exact e),λp hp hc=>?_,λl hl=>by rw[key l hl];exact h.Sr l hl⟩,key⟩
 obtain⟨g1,g2,g3⟩:=h.ok p hp hc
 exact⟨g1,hs p hp hc,g3⟩
theorem Ev:∀ (L:Nat) (l:List Nat),l.Nodup->(∀ x∈l,x<L)->l.length<=L
 |0,l,_,h=>by
  cases l with
  |nil=>simp
  |cons x xs=>have:=h x (by simp);omega
 |L+1,l,hn,h=>by
  have h1:=Ev L (l.filter (· != L)) (hn.filter _) (λx hx=>by
   rw[List.mem_filter] at hx
   have:=h x hx.1
   have h2:x≠L:=by simpa using hx.2
   omega)
  have h2:∀ (l:List Nat),l.Nodup->l.length<=(l.filter (· != L)).length+1:=by
   intro l
   induction l with
   |nil=>intro _;simp
   |cons x xs ih =>
    intro hn
    rw[List.nodup_cons] at hn
    by_cases e:x=L
    .subst e
     have:xs.filter (· != x)=xs:=by
      rw[List.filter_eq_self]
      intro y hy
      have:y≠x:=λe=>hn.1 (e▸hy)
      simpa using this
     simp[this]
    .have e2:(x != L)=true:=by simpa using e
     have e3:(x::xs).filter (· != L)=x::xs.filter (· != L):=by simp[e]
     rw[e3]
     have:=ih hn.2
     simp only[List.length_cons]
     omega
  have:=h2 l hn
  omega
def R3(lb:Nat->Int):Nat->List Nat
 |0=>[]
 |k+1=>if lb k=-1 then R3 lb k else(lb k).toNat::R3 lb k
theorem JE(lb:Nat->Int):∀ k,(R3 lb k).length=eY lb k
 |0=>rfl
 |k+1=>by
  have ih:=JE lb k
  rw[R3,eY]
  by_cases h:lb k=-1
  .rw[if_pos h,if_pos h,ih];rfl
  .rw[if_neg h,if_neg h,List.length_cons,ih]
theorem BU{L M:Nat}{s:Bk}(h:Inv L M s):∀ k,k<=M->∀ x,x∈R3 s.lb k->∃ p,p<k/\s.lb p=(x:Int)
 |0,_,x,hx=>by simp[R3] at hx
 |k+1,hk,x,hx=>by
  have ih:=BU h k (by omega)
  rw[R3] at hx
  by_cases e:s.lb k=-1
  .rw[if_pos e] at hx
   obtain⟨p,hp,ep⟩:=ih x hx
   exact⟨p,by omega,ep⟩
  .rw[if_neg e] at hx
   rcases List.mem_cons.1 hx with rfl|hx
   .rcases h.o k (by omega) with e2|⟨l,_,e2,_⟩
    .exact(e e2).elim
    .exact⟨k,by omega,by omega⟩
   .obtain⟨p,hp,ep⟩:=ih x hx
    exact⟨p,by omega,ep⟩
theorem Aj{L M:Nat}{s:Bk}(h:Inv L M s):∀ k,k<=M->(R3 s.lb k).Nodup
 |0,_=>by simp[R3]
 |k+1,hk=>by
  have ih:=Aj h k (by omega)
  rw[R3]
  by_cases e:s.lb k=-1
  .rw[if_pos e];exact ih
  .rw[if_neg e,List.nodup_cons]
   refine⟨λhx=>?_,ih⟩
   obtain⟨p,hp,ep⟩:=BU h k (by omega) _ hx
   rcases h.o k (by omega) with e2|⟨l,_,e2,e3⟩
   .exact e e2
   .rcases h.o p (by omega) with e4|⟨l',_,e4,e5⟩
    .omega
    .have:l'=l:=by omega
     subst this
     omega
theorem Sv{L M:Nat}{s:Bk}(h:Inv L M s):eY s.lb M<=L:=by
 rw[<-JE]
 refine Ev L _ (Aj h M (Nat.le_refl _)) (λx hx=>?_)
 obtain⟨p,hp,e⟩:=BU h M (Nat.le_refl _) x hx
 rcases h.o p hp with e2|⟨l,hl,e2,_⟩
 .omega
 .omega
def jr(f:Nat->Nat):Nat->Nat
 |0=>0
 |k+1=>jr f k+f k
theorem JF{f g:Nat->Nat}:∀ n,(∀ k,k<n->f k<=g k)->jr f n<=jr g n
 |0,_=>Nat.le_refl _
 |n+1,h=>by
  have:=JF n (λk hk=>h k (by omega))
  have:=h n (by omega)
  rw[jr,jr]
  omega
theorem wG{f g:Nat->Nat}:∀ n,(∀ k,k<n->f k=g k)->jr f n=jr g n
 |0,_=>rfl
 |n+1,h=>by rw[jr,jr,wG n (λk hk=>h k (by omega)),h n (by omega)]
theorem nG{f g:Nat->Nat}{k:Nat}:∀ n,k<n->(∀ i,i<n->i≠k->g i=f i)->jr g n+f k=jr f n+g k
 |0,h,_=>by omega
 |n+1,h,hg=>by
  rw[jr,jr]
  by_cases e:k=n
  .subst e
   have:=wG k (λi hi=>hg i (by omega) (by omega))
   omega
  .have:=nG n (by omega) (λi hi hne=>hg i (by omega) hne)
   have:=hg n (by omega) (λe'=>e e'.symm)
   omega
theorem Ew(f:Nat->Int)(a:Nat):∀ b,eY f (a+b)=eY f a+eY (λi=>f (a+i)) b
 |0=>rfl
 |b+1=>by
  rw[<-Nat.add_assoc,eY,eY,Ew f a b]
  omega
def aX(P:Nat)(s:Bk)(k:Nat):Nat:=eY (λi=>s.lb (k*P+i)) P
theorem Ey(P:Nat)(s:Bk):∀ N,jr (aX P s) N=eY s.lb (N*P)
 |0=>by rw[Nat.zero_mul];rfl
 |N+1=>by
  rw[jr,Ey P s N,Nat.add_mul,Nat.one_mul,Ew]
  rfl
theorem qI(P:Nat)(s:Bk)(k:Nat):aX P s k<=P:=BJ _ _
structure iQ where
 next:Nat->Nat
 bad:Nat->Bool
def cZ(P:Nat)(c:iQ)(k:Nat):Nat:=if c.bad k=true then 0 else P-c.next k
def aO(P N:Nat)(c:iQ):Nat:=jr (cZ P c) N
def cu(N:Nat)(c:iQ):Nat:=jr (λk=>if c.bad k=true then 1 else 0) N
def sw(P N:Nat)(c:iQ):Prop:=∀ i k,i<N->k<N->c.bad i=false->c.bad k=false->0<c.next i->c.next i<P->0<c.next k->c.next k<P->i=k
def Full(P:Nat)(c:iQ)(k:Nat):Prop:=c.bad k=false/\c.next k=P
theorem BX{L P N spare:Nat}{s:Bk}{c:iQ}(hI:Inv L (N*P) s)(hP:1<=P)(h1:sw P N c)(hb:cu N c<=spare)(hs:spare+4<=N)(hL:L<=(N-spare-4)*P)(hn:∀ k,c.next k<=P)(hlt:aO P N c<(spare-cu N c+3)*P):∃ k,k<N/\Full P c k/\aX P s k<P:=by
 refine Classical.byContradiction λhno=>?_
 have hfull:∀ k,k<N->Full P c k->aX P s k=P:=λk hk hF=>by
  have:=qI P s k
  rcases Nat.lt_or_ge (aX P s k) P with h|h
  .exact(hno ⟨k,hk,hF,h⟩).elim
  .omega
 -- each block is bad,or full and all live,or blank,or the one in between
 have key:∀ n,n<=N->n*P<=jr (aX P s) n+aO P n c+cu n c*P+P/\((∀ k,k<n->c.bad k=false->¬(0<c.next k/\c.next k<P))->n*P<=jr (aX P s) n+aO P n c+cu n c*P):=by
  intro n
  induction n with
  |zero=>intro _;simp[aO,cu,jr]
  |succ n ih =>
   intro hn1
   obtain⟨i1,i2⟩:=ih (by omega)
   have e1:jr (aX P s) (n+1)=jr (aX P s) n+aX P s n:=rfl
   have e2:aO P (n+1) c=aO P n c+cZ P c n:=rfl
   have e3:cu (n+1) c=cu n c+(if c.bad n=true then 1 else 0):=rfl
   have e4:(n+1)*P=n*P+P:=by rw[Nat.add_mul,Nat.one_mul]
   rw[e1,e2,e3,e4]
   have hnx:=hn n
   cases hbad:c.bad n with
   |true =>
    have e5:(cu n c+1)*P=cu n c*P+P:=by rw[Nat.add_mul,Nat.one_mul]
    simp only[if_true]
    rw[e5]
    refine⟨by omega,λh=>?_⟩
    have:=i2 (λk hk=>h k (by omega))
    omega
   |false =>
    have e5:cZ P c n=P-c.next n:=by unfold cZ;rw[hbad];rfl
    simp only[Bool.false_eq_true,if_false,Nat.add_zero]
    rw[e5]
    by_cases hf:c.next n=P
    .have:=hfull n (by omega) ⟨hbad,hf⟩
     refine⟨by omega,λh=>?_⟩
     have:=i2 (λk hk=>h k (by omega))
     omega
    .by_cases h0:c.next n=0
     .refine⟨by omega,λh=>?_⟩
      have:=i2 (λk hk=>h k (by omega))
      omega
     ·-- the one in between: no other ahead of it
      have hnone:∀ k,k<n->c.bad k=false->¬(0<c.next k/\c.next k<P):=λk hk hbk ⟨q1,q2⟩=>by
       have:=h1 k n (by omega) (by omega) hbk hbad q1 q2 (by omega) (by omega)
       omega
      have:=i2 hnone
      refine⟨by omega,λh=>?_⟩
      exact(h n (by omega) hbad ⟨by omega,by omega⟩).elim
 obtain⟨k1,_⟩:=key N (Nat.le_refl _)
 rw[Ey] at k1
 have hlv:=Sv hI
 have e6:N*P=(N-spare-4)*P+(spare+4)*P:=by rw[<-Nat.add_mul];congr 1;omega
 have e7:(spare+4)*P=(spare-cu N c+3)*P+(cu N c*P+P):=by
  rw[<-Nat.succ_mul,<-Nat.add_mul];congr 1;omega
 omega
def bS(P N spare:Nat)(c:iQ):Nat:=(spare-cu N c+3)*P
def Room(P N spare k:Nat)(s:Bk)(c:iQ):Prop:=bS P N spare c<=aO P N c\/∃ v,v<N/\Full P c v/\aX P s v<P/\bS P N spare c<=aO P N c+(P-aX P s v)+k
theorem Room.more{P N spare k k':Nat}{s:Bk}{c:iQ}(h:Room P N spare k s c)(hk:k<=k'):Room P N spare k' s c:=by
 rcases h with h|⟨v,h1,h2,h3,h4⟩
 .exact Or.inl h
 .exact Or.inr ⟨v,h1,h2,h3,by omega⟩
theorem vK{P N spare:Nat}{c:iQ}:3*P<=bS P N spare c:=by
 unfold bS
 rw[Nat.add_mul]
 omega
def dR(c:iQ)(b:Nat):iQ:=⟨upd c.next b (c.next b+1),c.bad⟩
theorem wJ{N:Nat}{c:iQ}{b:Nat}:cu N (dR c b)=cu N c:=rfl
theorem Lp{P N spare:Nat}{c:iQ}{b:Nat}:bS P N spare (dR c b)=bS P N spare c:=rfl
theorem wL{P N:Nat}{c:iQ}{b:Nat}(hb:b<N)(hg:c.bad b=false)(hn:c.next b<P):aO P N (dR c b)+1=aO P N c:=by
 have h:=nG (f:=cZ P c) (g:=cZ P (dR c b)) (k:=b) N hb (λi hi hne=>by
  unfold cZ dR
  dsimp only
  rw[upd_ne _ _ _ _ hne])
 have e1:cZ P c b=P-c.next b:=by unfold cZ;rw[hg];rfl
 have e2:cZ P (dR c b) b=P-(c.next b+1):=by
  unfold cZ dR
  dsimp only
  rw[upd_same,hg];rfl
 unfold aO
 omega
theorem Lr{P:Nat}{c:iQ}{b v:Nat}(hb:c.next b<P)(hv:Full P c v):v≠b/\Full P (dR c b) v:=by
 have hne:v≠b:=by rintro rfl;have:=hv.2;omega
 refine⟨hne,hv.1,?_⟩
 show upd c.next b (c.next b+1) v=P
 rw[upd_ne _ _ _ _ hne];exact hv.2
def vD(P N:Nat)(c:iQ)(b:Nat):Prop:=b<N/\c.bad b=false/\c.next b<P/\(c.next b=0->∀ i,i<N->c.bad i=false->¬(0<c.next i/\c.next i<P))
theorem N9{P N:Nat}{c:iQ}{b:Nat}(h:sw P N c)(hx:vD P N c b):sw P N (dR c b):=by
 obtain⟨h1,h2,h3,h4⟩:=hx
 have key:∀ i,i<N->c.bad i=false->0<(dR c b).next i->(dR c b).next i<P->i=b:=by
  intro i hi hbi q1 q2
  by_cases e:i=b
  .exact e
  .have e2:(dR c b).next i=c.next i:=upd_ne _ _ _ _ e
   rw[e2] at q1 q2
   by_cases h0:c.next b=0
   .exact(h4 h0 i hi hbi ⟨q1,q2⟩).elim
   .exact h i b hi h1 hbi h2 q1 q2 (by omega) h3
 intro i k hi hk hbi hbk q1 q2 q3 q4
 rw[key i hi hbi q1 q2,key k hk hbk q3 q4]
def h_(c:iQ)(v:Nat):iQ:=⟨upd c.next v 0,c.bad⟩
theorem wM{P N:Nat}{c:iQ}{v:Nat}(hv:v<N)(hF:Full P c v):aO P N (h_ c v)=aO P N c+P:=by
 have h:=nG (f:=cZ P c) (g:=cZ P (h_ c v)) (k:=v) N hv (λi hi hne=>by
  unfold cZ h_
  dsimp only
  rw[upd_ne _ _ _ _ hne])
 have e1:cZ P c v=0:=by unfold cZ;rw[hF.1,hF.2];simp
 have e2:cZ P (h_ c v) v=P:=by
  unfold cZ h_
  dsimp only
  rw[upd_same,hF.1];rfl
 unfold aO
 omega
theorem N_{P N:Nat}{c:iQ}{v:Nat}(h:sw P N c):sw P N (h_ c v):=by
 have key:∀ i,0<(h_ c v).next i->i≠v/\(h_ c v).next i=c.next i:=λi q=>by
  by_cases e:i=v
  .subst e
   have:(h_ c i).next i=0:=upd_same _ _ _
   omega
  .exact⟨e,upd_ne _ _ _ _ e⟩
 intro i k hi hk hbi hbk q1 q2 q3 q4
 obtain⟨_,e1⟩:=key i q1
 obtain⟨_,e2⟩:=key k q3
 rw[e1] at q1 q2
 rw[e2] at q3 q4
 exact h i k hi hk hbi hbk q1 q2 q3 q4
def fC(c:iQ)(v:Nat):iQ:=⟨c.next,upd c.bad v true⟩
theorem wP{P N:Nat}{c:iQ}{v:Nat}(hv:v<N)(hF:Full P c v):aO P N (fC c v)=aO P N c:=by
 have h:=nG (f:=cZ P c) (g:=cZ P (fC c v)) (k:=v) N hv (λi hi hne=>by
  have e:(fC c v).bad i=c.bad i:=upd_ne _ _ _ _ hne
  show (if (fC c v).bad i=true then 0 else P-c.next i)=(if c.bad i=true then 0 else P-c.next i)
  simp only[e])
 have e1:cZ P c v=0:=by unfold cZ;rw[hF.1,hF.2];simp
 have e2:cZ P (fC c v) v=0:=by
  have e:(fC c v).bad v=true:=upd_same _ _ _
  show (if (fC c v).bad v=true then 0 else P-c.next v)=0
  simp only[e,if_true]
 unfold aO
 omega
theorem Ez{N:Nat}{c:iQ}{v:Nat}(hv:v<N)(hg:c.bad v=false):cu N (fC c v)=cu N c+1:=by
 have h:=nG (f:=λk=>if c.bad k=true then 1 else 0) (g:=λk=>if (fC c v).bad k=true then 1 else 0) (k:=v) N hv (λi hi hne=>by
  show (if upd c.bad v true i=true then 1 else 0)=_
  rw[upd_ne _ _ _ _ hne])
 have e1:(if c.bad v=true then 1 else 0)=0:=by rw[hg];rfl
 have e2:(if (fC c v).bad v=true then 1 else 0)=1:=by
  show (if upd c.bad v true v=true then 1 else 0)=1
  rw[upd_same];rfl
 simp only[e1,e2] at h
 unfold cu
 omega
theorem Oa{P N:Nat}{c:iQ}{v:Nat}(h:sw P N c):sw P N (fC c v):=by
 have key:∀ i,(fC c v).bad i=false->c.bad i=false:=λi q=>by
  by_cases e:i=v
  .subst e
   have:(fC c i).bad i=true:=upd_same _ _ _
   rw[this] at q;cases q
  .have:(fC c v).bad i=c.bad i:=upd_ne _ _ _ _ e
   rw[<-this];exact q
 intro i k hi hk hbi hbk q1 q2 q3 q4
 exact h i k hi hk (key i hbi) (key k hbk) q1 q2 q3 q4
structure Fit(L P N spare:Nat):Prop where
 p1:1<=P
 n4:spare+4<=N
 l1:L<=(N-spare-4)*P
theorem wQ{L P N spare:Nat}{s s':Bk}{c:iQ}{b:Nat}(hF:Fit L P N spare)(hI:Inv L (N*P) s')(h1:sw P N (dR c b))(hn:∀ k,(dR c b).next k<=P)(hb:cu N c<=spare)(hx:b<N/\c.bad b=false/\c.next b<P)(h:bS P N spare c<=aO P N c):Room P N spare 0 s' (dR c b):=by
 have e:=wL hx.1 hx.2.1 hx.2.2
 by_cases h2:bS P N spare (dR c b)<=aO P N (dR c b)
 .exact Or.inl h2
 .obtain⟨v,hv,hf,hl⟩:=BX hI hF.p1 h1 (by rw[wJ];exact hb) hF.n4 hF.l1 hn (by unfold bS at h2;omega)
  refine Or.inr ⟨v,hv,hf,hl,?_⟩
  rw[Lp]
  omega
theorem wR{L P N spare k v:Nat}{s:Bk}{c:iQ}(h:Room P N spare k s c)(hs:aO P N c<bS P N spare c)(hv:v<N/\Full P c v/\aX P s v<P)(hmin:∀ u,u<N->Full P c u->aX P s u<P->aX P s v<=aX P s u):bS P N spare c<=aO P N c+(P-aX P s v)+k:=by
 rcases h with h|⟨u,h1,h2,h3,h4⟩
 .omega
 .have:=hmin u h1 h2 h3
  omega
theorem Hg{L P N spare k v:Nat}{s:Bk}{c:iQ}(hF:Fit L P N spare)(hI:Inv L (N*P) s)(h1:sw P N (h_ c v))(hn:∀ i,(h_ c v).next i<=P)(hb:cu N c<=spare)(hv:v<N/\Full P c v)(h:bS P N spare c<=aO P N c+P+k):Room P N spare k s (h_ c v):=by
 have e:=wM hv.1 hv.2
 have e2:bS P N spare (h_ c v)=bS P N spare c:=rfl
 by_cases h2:bS P N spare (h_ c v)<=aO P N (h_ c v)
 .exact Or.inl h2
 .obtain⟨u,hu,hf,hl⟩:=BX hI hF.p1 h1 hb hF.n4 hF.l1 hn (by unfold bS at h2;omega)
  exact Or.inr ⟨u,hu,hf,hl,by omega⟩
theorem EA{L P N spare k v:Nat}{s:Bk}{c:iQ}(hF:Fit L P N spare)(hI:Inv L (N*P) s)(h1:sw P N (fC c v))(hn:∀ i,(fC c v).next i<=P)(hb:cu N (fC c v)<=spare)(hv:v<N/\Full P c v)(h:bS P N spare c<=aO P N c+P+k):Room P N spare k s (fC c v):=by
 have e:=wP hv.1 hv.2
 have e1:=Ez hv.1 hv.2.1
 have e2:bS P N spare c=bS P N spare (fC c v)+P:=by
  unfold bS
  rw[e1,<-Nat.succ_mul]
  congr 1
  omega
 by_cases h2:bS P N spare (fC c v)<=aO P N (fC c v)
 .exact Or.inl h2
 .obtain⟨u,hu,hf,hl⟩:=BX hI hF.p1 h1 hb hF.n4 hF.l1 hn (by unfold bS at h2;omega)
  exact Or.inr ⟨u,hu,hf,hl,by omega⟩
theorem BZ{P N:Nat}{c:iQ}(h:0<aO P N c):∃ k,k<N/\c.bad k=false/\c.next k<P:=by
 refine Classical.byContradiction λhno=>?_
 have:jr (cZ P c) N<=jr (λ_=>0) N:=JF N (λk hk=>by
  unfold cZ
  cases hb:c.bad k with
  |true=>simp
  |false =>
   have:¬c.next k<P:=λe=>hno ⟨k,hk,hb,e⟩
   simp;omega)
 have h0:∀ n,jr (λ_=>0) n=0:=λn=>by
  induction n with
  |zero=>rfl
  |succ n ih=>rw[jr,ih]
 rw[h0] at this
 unfold aO at h
 omega
theorem EB{f g:Nat->Int}{k:Nat}:∀ n,k<n->(∀ i,i<n->i≠k->g i=f i)->eY g n+(if f k=-1 then 0 else 1)=eY f n+(if g k=-1 then 0 else 1)
 |0,h,_=>by omega
 |n+1,h,hg=>by
  rw[eY,eY]
  by_cases e:k=n
  .subst e
   have h2:∀ m,m<=k->eY g m=eY f m:=λm hm=>by
    induction m with
    |zero=>rfl
    |succ m ih=>rw[eY,eY,ih (by omega),hg m (by omega) (by omega)]
   have:=h2 k (Nat.le_refl _)
   omega
  .have:=EB n (by omega) (λi hi hne=>hg i (by omega) hne)
   have:=hg n (by omega) (λe'=>e e'.symm)
   rw[this]
   omega
theorem wS{f g:Nat->Int}:∀ n,(∀ i,i<n->g i=f i)->eY g n=eY f n
 |0,_=>rfl
 |n+1,h=>by rw[eY,eY,wS n (λi hi=>h i (by omega)),h n (by omega)]
theorem Ak{f:Nat->Int}:∀ n,(∀ i,i<n->f i=-1)->eY f n=0
 |0,_=>rfl
 |n+1,h=>by rw[eY,Ak n (λi hi=>h i (by omega)),h n (by omega)];rfl
end Go.Proofs.au
namespace Go.Proofs.au
open Go.RowKit
theorem Am{l xs:List Nat}{off i:Nat}(h:off+xs.length<=l.length):(splice l off xs)[i]?=if i<off then l[i]? else if i<off+xs.length then xs[i-off]? else l[i]?:=by
 unfold splice
 have hl:(l.take off).length=off:=by simp;omega
 by_cases h1:i<off
 .rw[if_pos h1,List.getElem?_append_left (by rw[hl];exact h1),List.getElem?_take,if_pos h1]
 .rw[if_neg h1,List.getElem?_append_right (by rw[hl];omega),hl]
  by_cases h2:i<off+xs.length
  .rw[if_pos h2,List.getElem?_append_left (by omega)]
  .rw[if_neg h2,List.getElem?_append_right (by omega),List.getElem?_drop]
   congr 1;omega
theorem B_{l:List Nat}{a n i:Nat}:(dV l a n)[i]?=if i<n then l[a+i]? else none:=by
 unfold dV
 rw[List.getElem?_take]
 split
 .rw[List.getElem?_drop]
 .rfl
theorem Ob{l xs:List Nat}{j Y:Nat}(hx:xs.length<=Y)(hl:j*Y+Y<=l.length):dV (splice l (j*Y) xs) (j*Y) Y=xs++(dV l (j*Y) Y).drop xs.length:=by
 apply List.ext_getElem?
 intro i
 rw[B_,Am (by omega)]
 by_cases h1:i<xs.length
 .rw[if_pos (by omega),if_neg (by omega),if_pos (by omega),List.getElem?_append_left h1]
  congr 1;omega
 .rw[List.getElem?_append_right (by omega),List.getElem?_drop,B_]
  by_cases h2:i<Y
  .rw[if_pos h2,if_neg (by omega),if_neg (by omega),if_pos (by omega)]
   congr 1;omega
  .rw[if_neg h2,if_neg (by omega)]
theorem Ao{l xs:List Nat}{i j Y:Nat}(hx:xs.length<=Y)(hl:j*Y+Y<=l.length)(hij:i≠j):dV (splice l (j*Y) xs) (i*Y) Y=dV l (i*Y) Y:=by
 apply List.ext_getElem?
 intro k
 rw[B_,B_]
 by_cases hk:k<Y
 .rw[if_pos hk,if_pos hk,Am (by omega)]
  rcases Nat.lt_or_gt_of_ne hij with h|h
  .have:i*Y+Y<=j*Y:=by rw[<-Nat.succ_mul];exact Nat.mul_le_mul_right Y h
   rw[if_pos (by omega)]
  .have:j*Y+Y<=i*Y:=by rw[<-Nat.succ_mul];exact Nat.mul_le_mul_right Y h
   rw[if_neg (by omega),if_neg (by omega)]
 .rw[if_neg hk,if_neg hk]
theorem vL{n v a k:Nat}(h:a+k<=n):dV (List.replicate n v) a k=List.replicate k v:=by
 unfold dV
 rw[List.drop_replicate,List.take_replicate]
 congr 1;omega
def f_(P Y:Nat)(bytes:Nat->List Nat)(p:Nat):List Nat:=dV (bytes (p/P)) (p%P*Y) Y
theorem div_mul{k j P:Nat}(h:j<P):(k*P+j)/P=k/\(k*P+j)%P=j:=by
 have hP:0<P:=by omega
 refine⟨?_,?_⟩
 .rw[Nat.mul_comm,Nat.mul_add_div hP,Nat.div_eq_of_lt h,Nat.add_zero]
 .rw[Nat.mul_comm,Nat.mul_add_mod,Nat.mod_eq_of_lt h]
theorem Oc{P Y k j:Nat}{bytes:Nat->List Nat}(h:j<P):f_ P Y bytes (k*P+j)=dV (bytes k) (j*Y) Y:=by
 unfold f_
 rw[(div_mul h).1,(div_mul h).2]
theorem wU{k j P N:Nat}(hk:k<N)(hj:j<P):k*P+j<N*P:=by
 have:k*P+P<=N*P:=by rw[<-Nat.succ_mul];exact Nat.mul_le_mul_right P hk
 omega
theorem nH{p P N:Nat}(hp:p<N*P):p/P<N/\p%P<P/\p=p/P*P+p%P:=by
 have hP:0<P:=by
  rcases Nat.eq_zero_or_pos P with e|e
  .rw[e,Nat.mul_zero] at hp;omega
  .exact e
 refine⟨?_,Nat.mod_lt _ hP,?_⟩
 .rw[Nat.div_lt_iff_lt_mul hP];exact hp
 .have:=Nat.div_add_mod p P;rw[Nat.mul_comm] at this;omega
theorem JG{P Y N k j:Nat}{bytes:Nat->List Nat}{xs:List Nat}(hk:k<N)(hj:j<P)(hx:xs.length<=Y)(hl:(bytes k).length=P*Y):∀ p,p<N*P->f_ P Y (upd bytes k (splice (bytes k) (j*Y) xs)) p=upd (f_ P Y bytes) (k*P+j) (xs++(dV (bytes k) (j*Y) Y).drop xs.length) p:=by
 intro p hp
 obtain⟨h1,h2,h3⟩:=nH hp
 have hjY:j*Y+Y<=(bytes k).length:=by rw[hl,<-Nat.succ_mul];exact Nat.mul_le_mul_right Y hj
 by_cases e:p=k*P+j
 .rw[e,upd_same,Oc hj,upd_same]
  exact Ob hx hjY
 .rw[upd_ne _ _ _ _ e]
  unfold f_
  by_cases ek:p/P=k
  .rw[ek,upd_same]
   refine Ao hx hjY (λej=>e ?_)
   rw[h3,ek,ej]
  .rw[upd_ne _ _ _ _ ek]
theorem Od{P Y N k v:Nat}{bytes:Nat->List Nat}:∀ p,p<N*P->f_ P Y (upd bytes k (List.replicate (P*Y) v)) p=if p/P=k then List.replicate Y v else f_ P Y bytes p:=by
 intro p hp
 obtain⟨h1,h2,h3⟩:=nH hp
 unfold f_
 by_cases ek:p/P=k
 .rw[if_pos ek,ek,upd_same]
  exact vL (by rw[<-Nat.succ_mul];exact Nat.mul_le_mul_right Y h2)
 .rw[if_neg ek,upd_ne _ _ _ _ ek]
theorem wV{n:Nat}:¬pE (List.replicate n 255):=λh=>by
 have:=nD h.1
 rw[List.getElem?_replicate] at this
 split at this<;>simp at this
theorem Ls{n:Nat}:¬pE (List.replicate n 0):=λh=>by
 have:=nD h.1
 rw[List.getElem?_replicate] at this
 split at this<;>simp at this
theorem Sy{p:List Nat}{k:Nat}(h:k<p.length):¬pE (wE p k):=λhc=>Es h hc.1
theorem Sz{n gq seq:Nat}{data:List Nat}(h:D6 n 3 gq seq data.length):¬pE (aR n 3 gq seq data):=λhc=>by
 have:=(ny h).1
 rcases hc.2 with e|e<;>omega
theorem Ca{n v:Nat}(h:v<256):aZ (List.replicate n v):=λx hx=>by
 rw[List.eq_of_mem_replicate hx];exact h
structure DV(N P Y L:Nat)(bytes:Nat->List Nat)(c:iQ)(k:Bk)(seq:Nat):Prop where
 di:DI (N*P) L Y (f_ P Y bytes) k.pa seq
 inv:Inv L (N*P) k
 bl:∀ b,b<N->c.bad b=false->∀ j,c.next b<=j->j<P->dV (bytes b) (j*Y) Y=List.replicate Y 255
 one:sw P N c
 nx:∀ b,c.next b<=P
 len:∀ b,b<N->(bytes b).length=P*Y
def nI(P Y:Nat)(bytes:Nat->List Nat)(k:Bk)(l:Nat):List Nat:=fJ Y (f_ P Y bytes) k.pa l
theorem DI.congr{M L Y seq:Nat}{pg Lm:Nat->List Nat}{pa:Nat->Int}(h:DI M L Y pg pa seq)(he:∀ p,p<M->Lm p=pg p):DI M L Y Lm pa seq/\∀ l,l<L->fJ Y Lm pa l=fJ Y pg pa l :=
 h.lose ⟨λp hp=>by rw[he p hp];exact h.pz.len p hp,λp hp=>by rw[he p hp];exact h.pz.all p hp⟩ (λp hp=>Or.inl (he p hp)) (λl hl q e=>he q (h.some l hl q e).1)
theorem DV.blank{N P Y L seq b:Nat}{bytes:Nat->List Nat}{c:iQ}{k:Bk}(h:DV N P Y L bytes c k seq)(hx:vD P N c b):¬pE (f_ P Y bytes (b*P+c.next b))/\b*P+c.next b<N*P/\k.lb (b*P+c.next b)=-1:=by
 have hq:=wU hx.1 hx.2.2.1
 have hn:¬pE (f_ P Y bytes (b*P+c.next b)):=by
  rw[Oc hx.2.2.1,h.bl b hx.1 hx.2.1 _ (Nat.le_refl _) hx.2.2.1]
  exact wV
 refine⟨hn,hq,?_⟩
 rcases h.inv.o _ hq with e|⟨l,hl,e1,e2⟩
 .exact e
 .exact(hn (h.di.some l hl _ e2).2.1).elim
theorem DV.rest{N P Y L seq b:Nat}{bytes:Nat->List Nat}{c:iQ}{k:Bk}(h:DV N P Y L bytes c k seq)(hx:vD P N c b){xs:List Nat}(hxs:xs.length<=Y) :
 (∀ i,i<N->(dR c b).bad i=false->∀ j,(dR c b).next i<=j->j<P->dV (upd bytes b (splice (bytes b) (c.next b*Y) xs) i) (j*Y) Y=List.replicate Y 255)/\sw P N (dR c b)/\(∀ i,(dR c b).next i<=P)/\(∀ i,i<N->(upd bytes b (splice (bytes b) (c.next b*Y) xs) i).length=P*Y):=by
 have hY:c.next b*Y+Y<=(bytes b).length:=by rw[h.len b hx.1,<-Nat.succ_mul];exact Nat.mul_le_mul_right Y hx.2.2.1
 refine⟨λi hi hbi j hj SA=>?_,N9 h.one hx,λi=>?_,λi hi=>?_⟩
 .by_cases e:i=b
  .subst e
   have e2:(dR c i).next i=c.next i+1:=upd_same _ _ _
   rw[e2] at hj
   rw[upd_same,Ao hxs hY (by omega)]
   exact h.bl i hi hbi j (by omega) SA
  .have e2:(dR c b).next i=c.next i:=upd_ne _ _ _ _ e
   rw[e2] at hj
   rw[upd_ne _ _ _ _ e]
   exact h.bl i hi hbi j hj SA
 .by_cases e:i=b
  .subst e
   have e2:(dR c i).next i=c.next i+1:=upd_same _ _ _
   have:=hx.2.2.1
   omega
  .have e2:(dR c b).next i=c.next i:=upd_ne _ _ _ _ e
   rw[e2];exact h.nx i
 .by_cases e:i=b
  .subst e
   rw[upd_same]
   unfold splice
   rw[List.length_append,List.length_append,List.length_take,List.length_drop,h.len i hi]
   rw[h.len i hi] at hY
   omega
  .rw[upd_ne _ _ _ _ e];exact h.len i hi
theorem DV.put{N P Y L seq b kind l:Nat}{bytes:Nat->List Nat}{c:iQ}{k:Bk}{data:List Nat}(h:DV N P Y L bytes c k seq)(hx:vD P N c b)(hF:D6 Y kind l seq data.length)(hk:kind=1\/kind=2)(hd1:kind=1->data.length+21=Y)(hd2:kind=2->data=[])(hA:aZ data)(hl:l<L) :
 DV N P Y L (upd bytes b (splice (bytes b) (c.next b*Y) (aR Y kind l seq data))) (dR c b) (jS k l (b*P+c.next b)) (seq+1)/\∀ j,j<L->nI P Y (upd bytes b (splice (bytes b) (c.next b*Y) (aR Y kind l seq data))) (jS k l (b*P+c.next b)) j=if j=l then(if kind=1 then data else List.replicate (Y-21) 0) else nI P Y bytes k j:=by
 obtain⟨hn,hq,hlb⟩:=h.blank hx
 have hlen:(aR Y kind l seq data).length=Y:=gL Y kind l seq data hF.d1
 obtain⟨r1,r2,r3,r4⟩:=h.rest hx (xs:=aR Y kind l seq data) (by omega)
 obtain⟨d1,d2⟩:=h.di.put hF hk hd1 hd2 hA hl hq hn
 have he:∀ p,p<N*P->f_ P Y (upd bytes b (splice (bytes b) (c.next b*Y) (aR Y kind l seq data))) p=upd (f_ P Y bytes) (b*P+c.next b) (aR Y kind l seq data) p:=λp hp=>by
  rw[JG hx.1 hx.2.2.1 (by omega) (h.len b hx.1) p hp]
  congr 1
  rw[List.drop_eq_nil_of_le,List.append_nil]
  unfold dV
  rw[List.length_take]
  omega
 obtain⟨d3,d4⟩:=d1.congr he
 refine⟨⟨?_,En h.inv hl hq (Or.inl hlb),r1,r2,r3,r4⟩,λj hj=>?_⟩
 .rw[JB];exact d3
 .show fJ Y _ (jS k l (b*P+c.next b)).pa j=_
  rw[JB,d4 j hj]
  exact d2 j hj
theorem DV.junk{N P Y L seq b:Nat}{bytes:Nat->List Nat}{c:iQ}{k:Bk}{xs:List Nat}(h:DV N P Y L bytes c k seq)(hx:vD P N c b)(hxs:xs.length<=Y)(hA:aZ xs)(hn:¬pE (xs++List.replicate (Y-xs.length) 255)) :
 DV N P Y L (upd bytes b (splice (bytes b) (c.next b*Y) xs)) (dR c b) k seq/\∀ j,j<L->nI P Y (upd bytes b (splice (bytes b) (c.next b*Y) xs)) k j=nI P Y bytes k j:=by
 obtain⟨hn0,hq,hlb⟩:=h.blank hx
 obtain⟨r1,r2,r3,r4⟩:=h.rest hx hxs
 have hX:xs++(dV (bytes b) (c.next b*Y) Y).drop xs.length=xs++List.replicate (Y-xs.length) 255:=by
  rw[h.bl b hx.1 hx.2.1 _ (Nat.le_refl _) hx.2.2.1,List.drop_replicate]
 obtain⟨d1,d2⟩:=h.di.junk (q:=b*P+c.next b) (x:=xs++List.replicate (Y-xs.length) 255) (by simp;omega) (aZ.app hA (Ca (by omega))) hn hn0
 have he:∀ p,p<N*P->f_ P Y (upd bytes b (splice (bytes b) (c.next b*Y) xs)) p=upd (f_ P Y bytes) (b*P+c.next b) (xs++List.replicate (Y-xs.length) 255) p:=λp hp=>by
  rw[JG hx.1 hx.2.2.1 hxs (h.len b hx.1) p hp,hX]
 obtain⟨d3,d4⟩:=d1.congr he
 exact⟨⟨d3,h.inv,r1,r2,r3,r4⟩,λj hj=>(d4 j hj).trans (d2 j hj)⟩
theorem DV.note{N P Y L seq b gq sq:Nat}{bytes:Nat->List Nat}{c:iQ}{k:Bk}{data:List Nat}(h:DV N P Y L bytes c k seq)(hx:vD P N c b)(hF:D6 Y 3 gq sq data.length)(hA:aZ data) :
 DV N P Y L (upd bytes b (splice (bytes b) (c.next b*Y) (aR Y 3 gq sq data))) (dR c b) k seq/\∀ j,j<L->nI P Y (upd bytes b (splice (bytes b) (c.next b*Y) (aR Y 3 gq sq data))) k j=nI P Y bytes k j:=by
 have hlen:(aR Y 3 gq sq data).length=Y:=gL Y 3 gq sq data hF.d1
 refine h.junk hx (by omega) (jA Y 3 gq sq data (by omega) hA) ?_
 rw[hlen,Nat.sub_self,List.replicate_zero,List.append_nil]
 exact Sz hF
theorem DV.abo{N P Y L seq b:Nat}{bytes:Nat->List Nat}{c:iQ}{k:Bk}{page:List Nat}(h:DV N P Y L bytes c k seq)(hx:vD P N c b)(hp:page.length=Y)(hY:8<=Y)(hA:aZ page) :
 DV N P Y L (upd bytes b (splice (bytes b) (c.next b*Y) (page.take (Y/2)))) (dR c b) k seq/\∀ j,j<L->nI P Y (upd bytes b (splice (bytes b) (c.next b*Y) (page.take (Y/2)))) k j=nI P Y bytes k j:=by
 have hl:(page.take (Y/2)).length=Y/2:=by rw[List.length_take];omega
 refine h.junk hx (by omega) (hA.take _) ?_
 rw[hl]
 have:page.take (Y/2)++List.replicate (Y-Y/2) 255=wE page (Y/2):=by unfold wE;rw[hp]
 rw[this]
 exact Sy (by omega)
theorem DV.fill{N P Y L seq v x:Nat}{bytes:Nat->List Nat}{c c':iQ}{k:Bk}(h:DV N P Y L bytes c k seq)(hv:v<N)(hfree:∀ i,i<P->k.lb (v*P+i)=-1)(hx:x=255\/x=0)
 (hb:∀ b,b<N->c'.bad b=false->∀ j,c'.next b<=j->j<P->dV (upd bytes v (List.replicate (P*Y) x) b) (j*Y) Y=List.replicate Y 255) (h1:sw P N c') (hn:∀ b,c'.next b<=P) :
 DV N P Y L (upd bytes v (List.replicate (P*Y) x)) c' k seq/\∀ j,j<L->nI P Y (upd bytes v (List.replicate (P*Y) x)) k j=nI P Y bytes k j:=by
 have hlt:x<256:=by omega
 have hno:¬pE (List.replicate Y x):=by
  rcases hx with e|e
  .rw[e];exact wV
  .rw[e];exact Ls
 have hq:∀ p,p<N*P->f_ P Y (upd bytes v (List.replicate (P*Y) x)) p=if p/P=v then List.replicate Y x else f_ P Y bytes p:=λp hp=>Od (N:=N) p hp
 obtain⟨d1,d2⟩:=h.di.lose (Lm:=f_ P Y (upd bytes v (List.replicate (P*Y) x))) ⟨λp hp=>by
  rw[hq p hp];split
  .simp
  .exact h.di.pz.len p hp,λp hp=>by
  rw[hq p hp];split
  .exact Ca hlt
  .exact h.di.pz.all p hp⟩ (λp hp=>by
  rw[hq p hp]
  by_cases e:p/P=v
  .rw[if_pos e];exact Or.inr hno
  .rw[if_neg e];exact Or.inl rfl) (λl hl q e=>by
  have hqM:=(h.di.some l hl q e).1
  rw[hq q hqM]
  by_cases e2:q/P=v
  .obtain⟨p1,p2,p3⟩:=nH hqM
   have e3:=hfree (q%P) p2
   rw[<-e2,<-p3] at e3
   rcases h.inv.a l hl with e4|⟨q',_,e5,e6⟩
   .omega
   .have:q'=q:=by omega
    subst this
    omega
  .rw[if_neg e2])
 refine⟨⟨d1,h.inv,hb,h1,hn,λb hb=>?_⟩,d2⟩
 by_cases e:b=v
 .subst e;rw[upd_same];simp
 .rw[upd_ne _ _ _ _ e];exact h.len b hb
theorem DV.aeg{N P Y L seq v:Nat}{bytes:Nat->List Nat}{c:iQ}{k:Bk}(h:DV N P Y L bytes c k seq)(hv:v<N)(hfree:∀ i,i<P->k.lb (v*P+i)=-1) :
 DV N P Y L (upd bytes v (List.replicate (P*Y) 255)) (h_ c v) k seq/\∀ j,j<L->nI P Y (upd bytes v (List.replicate (P*Y) 255)) k j=nI P Y bytes k j:=by
 refine h.fill hv hfree (Or.inl rfl) (λb hb hbad j hj SA=>?_) (N_ h.one) (λb=>?_)
 .by_cases e:b=v
  .subst e
   rw[upd_same]
   exact vL (by rw[<-Nat.succ_mul];exact Nat.mul_le_mul_right Y SA)
  .have e2:(h_ c v).next b=c.next b:=upd_ne _ _ _ _ e
   rw[e2] at hj
   rw[upd_ne _ _ _ _ e]
   exact h.bl b hb hbad j hj SA
 .by_cases e:b=v
  .subst e
   have:(h_ c b).next b=0:=upd_same _ _ _
   omega
  .have:(h_ c v).next b=c.next b:=upd_ne _ _ _ _ e
   rw[this];exact h.nx b
theorem DV.aeh{N P Y L seq v:Nat}{bytes:Nat->List Nat}{c c':iQ}{k:Bk}(h:DV N P Y L bytes c k seq)(hv:v<N)(hF:Full P c v)(hc:∀ b,c'.next b=c.next b)(hc2:∀ b,c'.bad b=c.bad b)(hfree:∀ i,i<P->k.lb (v*P+i)=-1) :
 DV N P Y L (upd bytes v (List.replicate (P*Y) 0)) c' k seq/\∀ j,j<L->nI P Y (upd bytes v (List.replicate (P*Y) 0)) k j=nI P Y bytes k j:=by
 refine h.fill hv hfree (Or.inr rfl) (λb hb hbad j hj SA=>?_) (λi j hi hj q1 q2 q3 q4 q5 q6=>?_) (λb=>by rw[hc];exact h.nx b)
 .rw[hc] at hj
  rw[hc2] at hbad
  by_cases e:b=v
  .subst e
   have:=hF.2
   omega
  .rw[upd_ne _ _ _ _ e]
   exact h.bl b hb hbad j hj SA
 .rw[hc2] at q1 q2
  rw[hc] at q3 q4 q5 q6
  exact h.one i j hi hj q1 q2 q3 q4 q5 q6
theorem DV.fail{N P Y L seq v:Nat}{bytes:Nat->List Nat}{c:iQ}{k:Bk}(h:DV N P Y L bytes c k seq):DV N P Y L bytes (fC c v) k seq:=by
 refine⟨h.di,h.inv,λb hb hbad j hj SA=>?_,Oa h.one,h.nx,h.len⟩
 have e:c.bad b=false:=by
  by_cases e:b=v
  .subst e
   have:(fC c b).bad b=true:=upd_same _ _ _
   rw[this] at hbad;cases hbad
  .have:(fC c v).bad b=c.bad b:=upd_ne _ _ _ _ e
   rw[<-this];exact hbad
 exact h.bl b hb e j hj SA
theorem DV.frame{N P Y L seq l q:Nat}{bytes:Nat->List Nat}{c:iQ}{k:Bk}(h:DV N P Y L bytes c k seq)(hl:l<L)(hq:k.pa l=(q:Int)):q<N*P/\pE (f_ P Y bytes q)/\bR (f_ P Y bytes q)=l/\nI P Y bytes k l=(if aQ (f_ P Y bytes q)=1 then aT (f_ P Y bytes q) else List.replicate (Y-21) 0)/\(aQ (f_ P Y bytes q)=1->(aT (f_ P Y bytes q)).length+21=Y)/\(aQ (f_ P Y bytes q)=2->aT (f_ P Y bytes q)=[]):=by
 obtain⟨h1,h2,h3,h4⟩:=h.di.some l hl q hq
 obtain⟨g1,g2,g3,g4⟩:=h.di.ok q h1 h2
 have hlong:(aT (f_ P Y bytes q)).length=aW (f_ P Y bytes q):=gN h2.1.1.d1
 refine⟨h1,h2,h3,?_,λe=>by rw[hlong];exact g3 e,λe=>?_⟩
 .unfold nI fJ
  rw[hq,if_neg (by omega),Int.toNat_natCast]
 .have:=g4 e
  exact List.eq_nil_of_length_eq_zero (by rw[hlong];exact this)
theorem EC{L M P v:Nat}{k:Bk}{l q r:Nat}(hI:Inv L M k)(hl:l<L)(hpa:k.pa l=(r:Int))(hr:r/P=v)(hq:q/P≠v)(hP:0<P)(hrq:r≠q):aX P (jS k l q) v+1=aX P k v:=by
 have hlb:k.lb r=(l:Int):=by
  rcases hI.a l hl with e|⟨p,_,e1,e2⟩
  .omega
  .have:p=r:=by omega
   subst this;exact e2
 have hr2:r=v*P+r%P:=by have:=Nat.div_add_mod r P;rw[Nat.mul_comm,hr] at this;omega
 unfold aX
 have hother:∀ i,i<P->i≠r%P->(jS k l q).lb (v*P+i)=k.lb (v*P+i):=λi hi hne=>by
  have e1:v*P+i≠q:=λe=>hq (by rw[<-e];exact(div_mul hi).1)
  have e2:v*P+i≠r:=λe=>by omega
  show upd (fG k l).lb q (l:Int) (v*P+i)=_
  rw[upd_ne _ _ _ _ e1]
  show (if k.pa l=-1 then k.lb else upd k.lb (k.pa l).toNat (-1)) (v*P+i)=_
  rw[if_neg (by omega),hpa,Int.toNat_natCast,upd_ne _ _ _ _ e2]
 have hu:=EB (f:=λi=>k.lb (v*P+i)) (g:=λi=>(jS k l q).lb (v*P+i)) (k:=r%P) P (Nat.mod_lt _ hP) hother
 have e3:(jS k l q).lb (v*P+r%P)=-1:=by rw[<-hr2];exact Af hI hl hpa hrq
 have e4:k.lb (v*P+r%P)=(l:Int):=by rw[<-hr2];exact hlb
 simp only[e3,e4,if_true] at hu
 rw[if_neg (by omega)] at hu
 omega

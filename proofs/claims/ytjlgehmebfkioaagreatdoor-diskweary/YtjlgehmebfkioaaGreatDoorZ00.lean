/- Part of the proof. -/
import Derived.Laws.CopyOwn
set_option linter.unusedVariables false
namespace Go.Proofs.ay
variable {L P p:Nat}
def upd{α:Type}(f:Nat->α)(k:Nat)(v:α):Nat->α:=λi=>if i=k then v else f i
theorem upd_same{α:Type}(f:Nat->α)(k:Nat)(v:α):upd f k v k=v:=if_pos rfl
theorem upd_ne{α:Type}(f:Nat->α)(k i:Nat)(v:α)(h:i≠k):upd f k v i=f i:=if_neg h
structure Bk where
 pa:Nat->Int
 lb:Nat->Int
def fresh:Bk:=⟨λ_=>-1,λ_=>-1⟩
structure Inv(L P:Nat)(s:Bk):Prop where
 a:∀ l,l<L->s.pa l=-1\/∃ p:Nat,p<P/\s.pa l=(p:Int)/\s.lb p=(l:Int)
 o:∀ p,p<P->s.lb p=-1\/∃ l:Nat,l<L/\s.lb p=(l:Int)/\s.pa l=(p:Int)
theorem Ab(L P:Nat):Inv L P fresh:=⟨λ_ _=>Or.inl rfl,λ_ _=>Or.inl rfl⟩
def fG(s:Bk)(l:Nat):Bk:=⟨upd s.pa l (-1),if s.pa l=-1 then s.lb else upd s.lb (s.pa l).toNat (-1)⟩
theorem nY{s:Bk}(h:Inv L P s){l:Nat}(hl:l<L):Inv L P (fG s l):=by
 unfold fG
 rcases h.a l hl with e|⟨p,hp,e1,e2⟩
 .rw[if_pos e]
  refine⟨λk hk=>?_,λq hq=>?_⟩
  .by_cases hkl:k=l
   .subst hkl;left;exact upd_same _ _ _
   .rcases h.a k hk with e3|⟨p,h1,h2,h3⟩
    .left;show upd s.pa l (-1) k=-1;rw[upd_ne _ _ _ _ hkl];exact e3
    .right;exact⟨p,h1,by show upd s.pa l (-1) k=_;rw[upd_ne _ _ _ _ hkl];exact h2,h3⟩
  .rcases h.o q hq with e3|⟨k,h1,h2,h3⟩
   .exact Or.inl e3
   .have hkl:k≠l:=by rintro rfl;omega
    right;exact⟨k,h1,h2,by show upd s.pa l (-1) k=_;rw[upd_ne _ _ _ _ hkl];exact h3⟩
 .rw[if_neg (by omega),e1,Int.toNat_natCast]
  refine⟨λk hk=>?_,λq hq=>?_⟩
  .by_cases hkl:k=l
   .subst hkl;left;exact upd_same _ _ _
   .rcases h.a k hk with e3|⟨p',h1,h2,h3⟩
    .left;show upd s.pa l (-1) k=-1;rw[upd_ne _ _ _ _ hkl];exact e3
    .have hpp:p'≠p:=by rintro rfl;omega
     right;exact⟨p',h1,by show upd s.pa l (-1) k=_;rw[upd_ne _ _ _ _ hkl];exact h2,by show upd s.lb p (-1) p'=_;rw[upd_ne _ _ _ _ hpp];exact h3⟩
  .by_cases Xj:q=p
   .subst Xj;left;exact upd_same _ _ _
   .rcases h.o q hq with e3|⟨k,h1,h2,h3⟩
    .left;show upd s.lb p (-1) q=-1;rw[upd_ne _ _ _ _ Xj];exact e3
    .have hkl:k≠l:=by rintro rfl;omega
     right;exact⟨k,h1,by show upd s.lb p (-1) q=_;rw[upd_ne _ _ _ _ Xj];exact h2,by show upd s.pa l (-1) k=_;rw[upd_ne _ _ _ _ hkl];exact h3⟩
theorem Ed(s:Bk)(l:Nat):(fG s l).pa l=-1:=upd_same _ _ _
theorem Js{s:Bk}(h:Inv L P s){l:Nat}(hl:l<L)(hp:p<P)(h1:s.pa l=-1)(h2:s.lb p=-1):Inv L P ⟨upd s.pa l (p:Int),upd s.lb p (l:Int)⟩:=by
 refine⟨λk hk=>?_,λq hq=>?_⟩
 .by_cases hkl:k=l
  .subst hkl;right;exact⟨p,hp,upd_same _ _ _,upd_same _ _ _⟩
  .rcases h.a k hk with e3|⟨p',g1,g2,g3⟩
   .left;show upd s.pa l (p:Int) k=-1;rw[upd_ne _ _ _ _ hkl];exact e3
   .have hpp:p'≠p:=by rintro rfl;omega
    right;exact⟨p',g1,by show upd s.pa l (p:Int) k=_;rw[upd_ne _ _ _ _ hkl];exact g2,by show upd s.lb p (l:Int) p'=_;rw[upd_ne _ _ _ _ hpp];exact g3⟩
 .by_cases Xj:q=p
  .subst Xj;right;exact⟨l,hl,upd_same _ _ _,upd_same _ _ _⟩
  .rcases h.o q hq with e3|⟨k,g1,g2,g3⟩
   .left;show upd s.lb p (l:Int) q=-1;rw[upd_ne _ _ _ _ Xj];exact e3
   .have hkl:k≠l:=by rintro rfl;omega
    right;exact⟨k,g1,by show upd s.lb p (l:Int) q=_;rw[upd_ne _ _ _ _ Xj];exact g2,by show upd s.pa l (p:Int) k=_;rw[upd_ne _ _ _ _ hkl];exact g3⟩
theorem Ee{s:Bk}(h:Inv L P s){l:Nat}(hl:l<L)(hp:p<P)(hf:s.lb p=-1\/s.lb p=(l:Int)):(fG s l).lb p=-1:=by
 unfold fG
 rcases hf with e|e
 .show (if s.pa l=-1 then s.lb else upd s.lb (s.pa l).toNat (-1)) p=-1
  split
  .exact e
  .unfold upd;split
   .rfl
   .exact e
 .rcases h.o p hp with e2|⟨k,h1,h2,h3⟩
  .omega
  .obtain rfl:k=l:=by omega
   show (if s.pa k=-1 then s.lb else upd s.lb (s.pa k).toNat (-1)) p=-1
   rw[if_neg (by omega),h3,Int.toNat_natCast,upd_same]
def rX(n:Nat)(x:Int):Bool:=decide (0<=x/\x<(n:Int))
def jP(s:Bk)(l p:Nat):Bk:=⟨upd (fG s l).pa l (p:Int),upd (fG s l).lb p (l:Int)⟩
def o9(L P:Nat)(s:Bk)(x y:Int):Nat × Bk :=
 if rX L x=false\/rX P y=false then(1,s) else if s.lb y.toNat≠-1/\s.lb y.toNat≠x then(10,s) else(0,jP s x.toNat y.toNat)
theorem Bv{n:Nat}{x:Int}(h:rX n x=true):∃ k:Nat,x=(k:Int)/\k<n:=by
 have h:=of_decide_eq_true h
 exact⟨x.toNat,by omega,by omega⟩
theorem r_{n k:Nat}(h:k<n):rX n (k:Int)=true:=decide_eq_true ⟨by omega,by omega⟩
theorem GN(L P:Nat)(s:Bk)(x y:Int) :
 ((rX L x=false\/rX P y=false)/\o9 L P s x y=(1,s)) \/
 ∃ l p:Nat,x=(l:Int)/\y=(p:Int)/\l<L/\p<P/\((s.lb p≠-1/\s.lb p≠(l:Int)/\o9 L P s x y=(10,s))\/((s.lb p=-1\/s.lb p=(l:Int))/\o9 L P s x y=(0,jP s l p))):=by
 unfold o9
 by_cases h1:rX L x=false\/rX P y=false
 .exact Or.inl ⟨h1,if_pos h1⟩
 .right
  rw[if_neg h1]
  obtain⟨l,rfl,hl⟩:=Bv (n:=L) (x:=x) (by cases h:rX L x with|true=>rfl|false=>exact absurd (Or.inl h) h1)
  obtain⟨p,rfl,hp⟩:=Bv (n:=P) (x:=y) (by cases h:rX P y with|true=>rfl|false=>exact absurd (Or.inr h) h1)
  rw[Int.toNat_natCast,Int.toNat_natCast]
  refine⟨l,p,rfl,rfl,hl,hp,?_⟩
  by_cases h2:s.lb p≠-1/\s.lb p≠(l:Int)
  .exact Or.inl ⟨h2.1,h2.2,if_pos h2⟩
  .exact Or.inr ⟨by omega,if_neg h2⟩
theorem Ef{s:Bk}(h:Inv L P s){l:Nat}(hl:l<L)(hp:p<P)(hf:s.lb p=-1\/s.lb p=(l:Int)):Inv L P (jP s l p) :=
 Js (nY h hl) hl hp (Ed s l) (Ee h hl hp hf)
theorem Jt(s:Bk)(l p:Nat):(jP s l p).pa=upd s.pa l (p:Int):=by
 funext i
 show upd (upd s.pa l (-1)) l (p:Int) i=upd s.pa l (p:Int) i
 unfold upd
 split<;>rfl
theorem Ac{s:Bk}(h:Inv L P s){l q:Nat}(hl:l<L)(hq:s.pa l=(q:Int))(hn:q≠p):(jP s l p).lb q=-1:=by
 show upd (fG s l).lb p (l:Int) q=-1
 rw[upd_ne _ _ _ _ hn]
 show (if s.pa l=-1 then s.lb else upd s.lb (s.pa l).toNat (-1)) q=-1
 rw[if_neg (by omega),hq,Int.toNat_natCast,upd_same]
def eY(f:Nat->Int):Nat->Nat
 |0=>0
 |k+1=>eY f k+if f k=-1 then 0 else 1
theorem Bw(f:Nat->Int):∀ k,eY f k<=k
 |0=>Nat.le_refl _
 |k+1=>by have:=Bw f k;unfold eY;split<;>omega
def GQ(x:Nat):Nat:=if x%2=1 then(x/2) ^^^ 3988292384 else x/2
def Sb:Nat->Nat->Nat
 |0,x=>x
 |n+1,x=>GQ (Sb n x)
def NW(s b:Nat):Nat:=Sb 8 (s ^^^ b)
def Bz(s:Nat)(l:List Nat):Nat:=l.foldl NW s
def Ae(l:List Nat):Nat:=4294967295 ^^^ Bz 4294967295 l
theorem Sc{x:Nat}(h:x<4294967296):GQ x<4294967296:=by
 unfold GQ
 split
 .exact Nat.xor_lt_two_pow (n:=32) (by omega) (by decide)
 .omega
theorem BF{x:Nat}(h:x<4294967296):∀ n,Sb n x<4294967296
 |0=>h
 |n+1=>Sc (BF h n)
theorem NY{a b:Nat}(ha:a<4294967296)(hb:b<4294967296):a ^^^ b<4294967296:=Nat.xor_lt_two_pow (n:=32) ha hb
theorem Si{s b:Nat}(h:s<4294967296)(hb:b<4294967296):NW s b<4294967296:=BF (NY h hb) 8
def aW(l:List Nat):Prop:=∀ x∈l,x<256
theorem Ju{s:Nat}(hs:s<4294967296):∀ l:List Nat,aW l->Bz s l<4294967296:=by
 intro l
 induction l generalizing s with
 |nil=>intro _;exact hs
 |cons b r ih=>intro h;exact ih (Si hs (by have:=h b (by simp);omega)) (λx hx=>h x (by simp[hx]))
theorem Le(s:Nat)(l:List Nat)(b:Nat):Bz s (l++[b])=NW (Bz s l) b:=by simp[Bz,List.foldl_append]
theorem aW.take{l:List Nat}(h:aW l)(k:Nat):aW (l.take k):=λx hx=>h x (List.mem_of_mem_take hx)
theorem aW.at{l:List Nat}(h:aW l)(k:Nat):l[k]?.getD 0<256:=by
 by_cases hk:k<l.length
 .rw[List.getElem?_eq_getElem hk];exact h _ (List.getElem_mem _)
 .rw[List.getElem?_eq_none (by omega)];decide
theorem vZ(l:List Nat)(k:Nat)(h:k<l.length):l.take (k+1)=l.take k++[l[k]?.getD 0]:=by
 rw[List.take_succ_eq_append_getElem h,List.getElem?_eq_getElem h];rfl
theorem NZ{l:List Nat}(h:aW l):Ae l<4294967296:=NY (by decide) (Ju (by decide) l h)
variable {p:List Nat} {kind gH:Nat}
def low:Nat->Nat->List Nat
 |0,_=>[]
 |k+1,x=>x%256::low k (x/256)
def num:List Nat->Nat
 | []=>0
 |b::r=>b+256*num r
theorem dx:∀ k x,(low k x).length=k
 |0,_=>rfl
 |k+1,x=>by simp[low,dx k]
theorem qG:∀ k x,aW (low k x)
 |0,_=>λ_ h=>by simp[low] at h
 |k+1,x=>λy h=>by
  simp only[low,List.mem_cons] at h
  rcases h with rfl|h
  .omega
  .exact qG k _ y h
theorem Eh:∀ k,low k 0=List.replicate k 0
 |0=>rfl
 |k+1=>by rw[low,Eh k,List.replicate_succ]
theorem N7(k:Nat):2 ^ (8*(k+1))=256*2 ^ (8*k):=by rw[show 8*(k+1)=8+8*k by omega,Nat.pow_add]
theorem qb:∀ l,aW l->num l<2 ^ (8*l.length)
 | [],_=>by decide
 |b::r,h=>by
  have h1:=h b (by simp)
  have h2:=qb r (λx hx=>h x (by simp[hx]))
  rw[List.length_cons,N7]
  show b+256*num r<_
  omega
theorem vH:∀ k x,x<2 ^ (8*k)->num (low k x)=x
 |0,x,h=>by show 0=x;simp at h;omega
 |k+1,x,h=>by
  rw[N7] at h
  have e:=vH k (x/256) (by omega)
  show x%256+256*num (low k (x/256))=x
  rw[e];omega
theorem Ei:∀ l b,num (l++[b])=num l+b*2 ^ (8*l.length)
 | [],b=>by simp[num]
 |a::r,b=>by
  show a+256*num (r++[b])=a+256*num r+_
  rw[Ei r b,List.length_cons,N7,Nat.mul_left_comm]
  omega
theorem Xk(l:List Nat)(b:Nat)(h:aW l):num l ||| b*2 ^ (8*l.length)=num (l++[b]):=by
 rw[Ei,Nat.or_comm,Nat.mul_comm b,<-Nat.two_pow_add_eq_or_of_lt (qb l h)]
 omega
theorem Ej:∀ k x,low (k+1) x=low k x++[x/2 ^ (8*k)%256]
 |0,x=>by simp[low]
 |k+1,x=>by
  show x%256::low (k+1) (x/256)=x%256::(low k (x/256)++_)
  rw[Ej k,Nat.div_div_eq_div_mul,N7]
def mP(kind gH seq len:Nat):List Nat:=[165,kind]++(low 4 gH++(low 8 seq++low 2 len))
def uQ(n:Nat)(data:List Nat):List Nat:=data++(List.replicate (n-21-data.length) 0++[90])
def fF(n sum kind gH seq:Nat)(data:List Nat):List Nat:=mP kind gH seq data.length++(low 4 sum++uQ n data)
def aR(n kind gH seq:Nat)(data:List Nat):List Nat:=fF n (Ae (fF n 0 kind gH seq data)) kind gH seq data
structure Dy(n kind gH seq len:Nat):Prop where
 n0:24<=n
 n1:n<=4096
 k0:1<=kind
 k1:kind<=3
 l1:gH<=4294967295
 s1:seq<=4611686018427387904
 d1:len+21<=n
theorem kZ(kind gH seq len:Nat):(mP kind gH seq len).length=16:=by simp[mP,dx]
theorem Lf(n:Nat)(data:List Nat)(h:data.length+21<=n):(uQ n data).length=n-20:=by simp[uQ];omega
theorem Lg(n sum kind gH seq:Nat)(data:List Nat)(h:data.length+21<=n):(fF n sum kind gH seq data).length=n:=by
 unfold fF
 rw[List.length_append,List.length_append,kZ,dx,Lf n data h]
 omega
theorem gJ(n kind gH seq:Nat)(data:List Nat)(h:data.length+21<=n):(aR n kind gH seq data).length=n:=Lg n _ kind gH seq data h
theorem aW.app{a b:List Nat}(ha:aW a)(hb:aW b):aW (a++b):=λx hx=>by
 rcases List.mem_append.1 hx with h|h
 .exact ha x h
 .exact hb x h
theorem Af(n sum kind gH seq:Nat)(data:List Nat)(hk:kind<256)(hd:aW data):aW (fF n sum kind gH seq data):=by
 unfold fF mP uQ
 refine aW.app (aW.app (λx hx=>?_) (aW.app (qG _ _) (aW.app (qG _ _) (qG _ _)))) (aW.app (qG _ _) (aW.app hd (aW.app (λx hx=>?_) (λx hx=>?_))))
 .simp at hx;omega
 .simp at hx;omega
 .simp at hx;omega
theorem jr(n kind gH seq:Nat)(data:List Nat)(hk:kind<256)(hd:aW data):aW (aR n kind gH seq data):=Af n _ kind gH seq data hk hd
def dU(p:List Nat)(a k:Nat):List Nat:=(p.drop a).take k
def aQ(p:List Nat):Nat:=p[1]?.getD 0
def bT(p:List Nat):Nat:=num (dU p 2 4)
def bM(p:List Nat):Nat:=num (dU p 6 8)
def aX(p:List Nat):Nat:=num (dU p 14 2)
def aT(p:List Nat):List Nat:=dU p 20 (aX p)
theorem abm(x:Nat):low 2 x=[x%256,x/256%256]:=rfl
theorem abn(x:Nat):low 4 x=[x%256,x/256%256,x/256/256%256,x/256/256/256%256]:=rfl
theorem abo(x:Nat):low 8 x=[x%256,x/256%256,x/256/256%256,x/256/256/256%256,x/256/256/256/256%256,x/256/256/256/256/256%256,x/256/256/256/256/256/256%256,x/256/256/256/256/256/256/256%256]:=rfl
theorem Lh(n sum kind gH seq:Nat)(data:List Nat):aQ (fF n sum kind gH seq data)=kind:=by
 simp[aQ,fF,mP]
theorem Li(n sum kind gH seq:Nat)(data:List Nat):dU (fF n sum kind gH seq data) 2 4=low 4 gH:=by
 simp[dU,fF,mP,dx]
theorem Lj(n sum kind gH seq:Nat)(data:List Nat):dU (fF n sum kind gH seq data) 6 8=low 8 seq:=by
 unfold dU fF mP
 rw[abn,abo,abm]
 rfl
theorem GU(n sum kind gH seq:Nat)(data:List Nat):dU (fF n sum kind gH seq data) 14 2=low 2 data.length:=by
 unfold dU fF mP
 rw[abn,abo,abm]
 rfl
theorem Ll(n sum kind gH seq:Nat)(data:List Nat):(fF n sum kind gH seq data).drop 20=uQ n data:=by
 unfold fF
 rw[<-List.append_assoc,List.drop_append_of_le_length (by rw[List.length_append,kZ,dx];omega),List.drop_of_length_le (by rw[List.length_append,kZ,dx];omega),List.nil_append]
theorem m_{n seq:Nat}{data:List Nat}(h:Dy n kind gH seq data.length) :
 aQ (aR n kind gH seq data)=kind/\bT (aR n kind gH seq data)=gH/\bM (aR n kind gH seq data)=seq/\aX (aR n kind gH seq data)=data.length/\aT (aR n kind gH seq data)=data:=by
 have e4:aX (aR n kind gH seq data)=data.length:=by
  unfold aX aR
  rw[GU]
  exact vH 2 _ (by have:=h.d1;have:=h.n1;show _<65536;omega)
 refine⟨Lh ..,?_,?_,e4,?_⟩
 .unfold bT aR
  rw[Li]
  exact vH 4 _ (by have:=h.l1;show _<4294967296;omega)
 .unfold bM aR
  rw[Lj]
  exact vH 8 _ (by have:=h.s1;show _<18446744073709551616;omega)
 .unfold aT
  rw[e4]
  unfold dU aR
  rw[Ll]
  unfold uQ
  rw[List.take_append_of_le_length (by omega),List.take_of_length_le (by omega)]
def fZ(p:List Nat):Prop:=Dy p.length (aQ p) (bT p) (bM p) (aX p)/\aR p.length (aQ p) (bT p) (bM p) (aT p)=p
theorem valid_pack{n seq:Nat}{data:List Nat}(h:Dy n kind gH seq data.length):fZ (aR n kind gH seq data):=by
 obtain⟨e1,e2,e3,e4,e5⟩:=m_ h
 unfold fZ
 rw[e1,e2,e3,e4,e5,gJ n kind gH seq data h.d1]
 exact⟨h,rfl⟩
def dH(p:List Nat):Prop:=0<p.length/\∀ i,i<p.length->p[i]?.getD 0=255
theorem wo(n kind gH seq:Nat)(data:List Nat):(aR n kind gH seq data)[0]?.getD 0=165:=by simp[aR,fF,mP]
theorem Lm{n seq:Nat}{data:List Nat}(h:data.length+21<=n):(aR n kind gH seq data)[n-1]?.getD 0=90:=by
 have e:aR n kind gH seq data=(mP kind gH seq data.length++(low 4 (Ae (fF n 0 kind gH seq data))++(data++List.replicate (n-21-data.length) 0)))++[90]:=by
  simp[aR,fF,uQ]
 have hl:(mP kind gH seq data.length++(low 4 (Ae (fF n 0 kind gH seq data))++(data++List.replicate (n-21-data.length) 0))).length=n-1:=by
  simp[kZ,dx];omega
 rw[e,List.getElem?_append_right (by omega),hl]
 simp
theorem ng(h:fZ p):p[0]?.getD 0=165:=by
 have:=wo p.length (aQ p) (bT p) (bM p) (aT p)
 rwa [h.2] at this
theorem gL(h:aX p+21<=p.length):(aT p).length=aX p:=by
 unfold aT dU
 rw[List.length_take,List.length_drop]
 omega
theorem GV(h:fZ p):p[p.length-1]?.getD 0=90:=by
 have:=Lm (n:=p.length) (kind:=aQ p) (gH:=bT p) (seq:=bM p) (data:=aT p) (by rw[gL h.1.d1];exact h.1.d1)
 rwa [h.2] at this
theorem GX(h:p[0]?.getD 0=165):¬dH p:=λe=>by
 have:=e.2 0 e.1
 rw[h] at this
 cases this
def wu(p:List Nat)(k:Nat):List Nat:=p.take k++List.replicate (p.length-k) 255
theorem Lp(p:List Nat)(k:Nat)(h:k<=p.length):(wu p k).length=p.length:=by simp[wu];omega
theorem El{k:Nat}(h1:k<p.length):¬fZ (wu p k):=by
 intro h
 have e:=GV h
 rw[Lp p k (by omega)] at e
 unfold wu at e
 rw[List.getElem?_append_right (by rw[List.length_take];omega),List.getElem?_replicate,if_pos (by rw[List.length_take];omega)] at e
 cases e
variable {p:List Nat}
def iN(p:List Nat):Bool:=p.length != 0&&p.all (·==255)
theorem kL(p:List Nat):iN p=true↔dH p:=by
 unfold iN dH
 simp only[Bool.and_eq_true,bne_iff_ne,ne_eq,List.all_eq_true,beq_iff_eq]
 constructor
 .rintro ⟨h1,h2⟩
  refine⟨by omega,λi hi=>?_⟩
  rw[List.getElem?_eq_getElem hi]
  exact h2 _ (List.getElem_mem hi)
 .rintro ⟨h1,h2⟩
  refine⟨by omega,λx hx=>?_⟩
  obtain⟨i,hi,rfl⟩:=List.mem_iff_getElem.1 hx
  have:=h2 i hi
  rw[List.getElem?_eq_getElem hi] at this
  exact this
def qc(p:List Nat):Bool:=decide (24<=p.length)&&decide (p.length<=4096)&&decide (1<=aQ p)&&decide (aQ p<=3)&&decide (bT p<=4294967295)&&decide (bM p<=4611686018427387904)&&decide (aX p+21<=p.length)&&decide (aR p.length (aQ p) (bT p) (bM p) (aT p)=p)
theorem l7(p:List Nat):qc p=true↔fZ p:=by
 unfold qc fZ
 simp only[Bool.and_eq_true,decide_eq_true_eq]
 constructor
 .rintro ⟨⟨⟨⟨⟨⟨⟨a,b⟩,c⟩,d⟩,e⟩,f⟩,g⟩,h⟩
  exact⟨⟨a,b,c,d,e,f,g⟩,h⟩
 .rintro ⟨⟨a,b,c,d,e,f,g⟩,h⟩
  exact⟨⟨⟨⟨⟨⟨⟨a,b⟩,c⟩,d⟩,e⟩,f⟩,g⟩,h⟩
def stP(p:List Nat):Nat:=if iN p then 1 else if qc p then 2 else 3
def qH(p:List Nat):Bool:=!iN p&&qc p
def zu(p:List Nat):Nat:=if qH p then aQ p else 0
def zw(p:List Nat):Nat:=if qH p then bT p else 0
def BG(p:List Nat):Nat:=if qH p then bM p else 0
theorem Em(h:dH p):stP p=1/\zu p=0/\zw p=0/\BG p=0:=by
 have e:=(kL p).2 h
 simp[stP,zu,zw,BG,qH,e]
theorem GY(h:¬dH p)(hv:fZ p):stP p=2/\zu p=aQ p/\zw p=bT p/\BG p=bM p:=by
 have e:iN p=false:=by cases hb:iN p with|false=>rfl|true=>exact absurd ((kL p).1 hb) h
 have v:=(l7 p).2 hv
 simp[stP,zu,zw,BG,qH,e,v]
theorem En(h:¬dH p)(hv:¬fZ p):stP p=3/\zu p=0/\zw p=0/\BG p=0:=by
 have e:iN p=false:=by cases hb:iN p with|false=>rfl|true=>exact absurd ((kL p).1 hb) h
 have v:qc p=false:=by cases hb:qc p with|false=>rfl|true=>exact absurd ((l7 p).1 hb) hv
 simp[stP,zu,zw,BG,qH,e,v]
variable {s:Bk} {L M Y q:Nat} {pa:Nat->Int} {pg:Nat->List Nat} {f g:Nat->Nat}
def o_(p:List Nat):Prop:=fZ p/\(aQ p=1\/aQ p=2)
theorem Ag(p:List Nat):qH p=true↔fZ p:=by
 unfold qH
 constructor
 .intro h
  simp only[Bool.and_eq_true] at h
  exact(l7 p).1 h.2
 .intro h
  have h1:iN p=false:=by
   cases he:iN p with
   |false=>rfl
   |true=>exact(GX (ng h) ((kL p).1 he)).elim
  rw[h1,(l7 p).2 h]
  rfl
structure RG(M Y:Nat)(pg:Nat->List Nat):Prop where
 len:∀ p,p<M->(pg p).length=Y
 all:∀ p,p<M->aW (pg p)
structure DI(M L Y:Nat)(pg:Nat->List Nat)(pa:Nat->Int)(seq:Nat):Prop where
 pz:RG M Y pg
 none:∀ l,l<L->pa l=-1->∀ p,p<M->o_ (pg p)->bT (pg p)≠l
 some:∀ l,l<L->∀ q:Nat,pa l=(q:Int)->q<M/\o_ (pg q)/\bT (pg q)=l/\∀ p,p<M->p≠q->o_ (pg p)->bT (pg p)=l->bM (pg p)<bM (pg q)
 ok:∀ p,p<M->o_ (pg p)->bT (pg p)<L/\bM (pg p)<seq/\(aQ (pg p)=1->aX (pg p)+21=Y)/\(aQ (pg p)=2->aX (pg p)=0)
 Sj:∀ l,l<L->pa l=-1\/∃ q:Nat,pa l=(q:Int)
def eU(Y:Nat)(pg:Nat->List Nat)(pa:Nat->Int)(l:Nat):List Nat:=if pa l=-1 then List.replicate (Y-21) 0 else if aQ (pg (pa l).toNat)=1 then aT (pg (pa l).toNat) else List.replicate (Y-21) 0
theorem DI.start(hp:RG M Y pg)(h:∀ p,p<M->¬o_ (pg p)):DI M L Y pg (λ_=>-1) 0 :=
 ⟨hp,λl _ _ p hp hc=>(h p hp hc).elim,λl _ q e=>by omega,λp hp hc=>(h p hp hc).elim,λl _=>Or.inl rfl⟩
theorem RG.set(h:RG M Y pg){x:List Nat}(hx:x.length=Y)(ha:aW x):RG M Y (upd pg q x):=by
 refine⟨λp hp=>?_,λp hp=>?_⟩
 .unfold upd;split
  .exact hx
  .exact h.len p hp
 .unfold upd;split
  .exact ha
  .exact h.all p hp
theorem DI.junk{seq:Nat}(h:DI M L Y pg pa seq){x:List Nat}(hx:x.length=Y)(ha:aW x)(hn:¬o_ x)(hq:¬o_ (pg q)):DI M L Y (upd pg q x) pa seq/\∀ l,l<L->eU Y (upd pg q x) pa l=eU Y pg pa l:=by
 have hc:∀ p,o_ (upd pg q x p)->p≠q/\o_ (pg p):=λp hp=>by
  by_cases e:p=q
  .subst e;rw[upd_same] at hp;exact(hn hp).elim
  .rw[upd_ne _ _ _ _ e] at hp;exact⟨e,hp⟩
 refine⟨⟨h.pz.set hx ha,λl hl e p hp hcp=>?_,λl hl k e=>?_,λp hp hcp=>?_,h.Sj⟩,λl hl=>?_⟩
 .obtain⟨e1,e2⟩:=hc p hcp
  rw[upd_ne _ _ _ _ e1];exact h.none l hl e p hp e2
 .obtain⟨h1,h2,h3,h4⟩:=h.some l hl k e
  have hk:k≠q:=by rintro rfl;exact hq h2
  rw[upd_ne _ _ _ _ hk]
  refine⟨h1,h2,h3,λp hp hpk hcp hlp=>?_⟩
  obtain⟨e1,e2⟩:=hc p hcp
  rw[upd_ne _ _ _ _ e1] at hlp ⊢
  exact h4 p hp hpk e2 hlp
 .obtain⟨e1,e2⟩:=hc p hcp
  rw[upd_ne _ _ _ _ e1];exact h.ok p hp e2
 .rcases h.Sj l hl with e|⟨k,e⟩
  .unfold eU;rw[if_pos e,if_pos e]
  .have hk:k≠q:=by rintro rfl;exact hq (h.some l hl _ e).2.1
   unfold eU
   rw[e,Int.toNat_natCast,upd_ne _ _ _ _ hk]
theorem DI.put{seq kind l:Nat}{data:List Nat}(h:DI M L Y pg pa seq)(hF:Dy Y kind l seq data.length)(hk:kind=1\/kind=2)(hd1:kind=1->data.length+21=Y)(hd2:kind=2->data=[])(hA:aW data)(hl:l<L)(hq:q<M)(hn:¬o_ (pg q)) :
 DI M L Y (upd pg q (aR Y kind l seq data)) (upd pa l (q:Int)) (seq+1)/\∀ k,k<L->eU Y (upd pg q (aR Y kind l seq data)) (upd pa l (q:Int)) k=if k=l then(if kind=1 then data else List.replicate (Y-21) 0) else eU Y pg pa k:=by
 have hd:data.length+21<=Y:=hF.d1
 have hlen:(aR Y kind l seq data).length=Y:=gJ Y kind l seq data hd
 have hv:fZ (aR Y kind l seq data):=valid_pack hF
 obtain⟨f1,f2,f3,f4,f5⟩:aQ (aR Y kind l seq data)=kind/\bT (aR Y kind l seq data)=l/\bM (aR Y kind l seq data)=seq/\aX (aR Y kind l seq data)=data.length/\aT (aR Y kind l seq data)=data:=m_ hF
 have hcn:o_ (aR Y kind l seq data):=⟨hv,by rw[f1];exact hk⟩
 generalize hX:aR Y kind l seq data=X at *
 have hXa:aW X:=by rw[<-hX];exact jr Y kind l seq data (by have:=hF.k1;omega) hA
 refine⟨⟨h.pz.set hlen hXa,λk hk e p hp hcp=>?_,λk hk r e=>?_,λp hp hcp=>?_,λk hk=>?_⟩,λk hk=>?_⟩
 .have hkl:k≠l:=by rintro rfl;rw[upd_same] at e;omega
  rw[upd_ne _ _ _ _ hkl] at e
  by_cases ep:p=q
  .subst ep;rw[upd_same,f2];exact λe'=>hkl e'.symm
  .rw[upd_ne _ _ _ _ ep] at hcp ⊢;exact h.none k hk e p hp hcp
 .by_cases hkl:k=l
  .subst hkl
   rw[upd_same] at e
   have er:r=q:=by omega
   subst er
   rw[upd_same]
   refine⟨hq,hcn,f2,λp hp hpr hcp hlp=>?_⟩
   rw[upd_ne _ _ _ _ hpr] at hcp ⊢
   rw[f3]
   exact(h.ok p hp hcp).2.1
  .rw[upd_ne _ _ _ _ hkl] at e
   obtain⟨h1,h2,h3,h4⟩:=h.some k hk r e
   have hrq:r≠q:=by rintro rfl;exact hn h2
   rw[upd_ne _ _ _ _ hrq]
   refine⟨h1,h2,h3,λp hp hpr hcp hlp=>?_⟩
   by_cases ep:p=q
   .subst ep;rw[upd_same,f2] at hlp;exact(hkl hlp.symm).elim
   .rw[upd_ne _ _ _ _ ep] at hcp hlp ⊢;exact h4 p hp hpr hcp hlp
 .by_cases ep:p=q
  .subst ep
   rw[upd_same,f1,f2,f3,f4]
   exact⟨hl,by omega,hd1,λe=>by rw[hd2 e];rfl⟩
  .rw[upd_ne _ _ _ _ ep] at hcp ⊢
   obtain⟨g1,g2,g3⟩:=h.ok p hp hcp
   exact⟨g1,by omega,g3⟩
 .by_cases hkl:k=l
  .subst hkl;right;exact⟨q,upd_same _ _ _⟩
  .rw[upd_ne _ _ _ _ hkl];exact h.Sj k hk
 .by_cases hkl:k=l
  .subst hkl
   rw[if_pos rfl]
   unfold eU
   rw[upd_same,if_neg (by omega),Int.toNat_natCast,upd_same,f1,f5]
  .rw[if_neg hkl]
   rcases h.Sj k hk with e|⟨r,e⟩
   .unfold eU;rw[upd_ne _ _ _ _ hkl,if_pos e,if_pos e]
   .have hrq:r≠q:=by rintro rfl;exact hn (h.some k hk _ e).2.1
    unfold eU
    rw[upd_ne _ _ _ _ hkl,e,Int.toNat_natCast,upd_ne _ _ _ _ hrq]
theorem DI.lose{seq:Nat}{Lr:Nat->List Nat}(h:DI M L Y pg pa seq)(hp:RG M Y Lr)(hs:∀ p,p<M->Lr p=pg p\/¬o_ (Lr p))(hk:∀ l,l<L->∀ q:Nat,pa l=(q:Int)->Lr q=pg q):DI M L Y Lr pa seq/\∀ l,l<L->eU Y Lr pa l=eU Y pg pa l:=by
 have hc:∀ p,p<M->o_ (Lr p)->Lr p=pg p:=λp hp hcp=>(hs p hp).elim id (λe=>(e hcp).elim)
 refine⟨⟨hp,λl hl e p hp hcp=>?_,λl hl k e=>?_,λp hp hcp=>?_,h.Sj⟩,λl hl=>?_⟩
 .have e1:=hc p hp hcp
  rw[e1] at hcp ⊢;exact h.none l hl e p hp hcp
 .obtain⟨h1,h2,h3,h4⟩:=h.some l hl k e
  rw[hk l hl k e]
  refine⟨h1,h2,h3,λp hp hpk hcp hlp=>?_⟩
  have e1:=hc p hp hcp
  rw[e1] at hcp hlp ⊢
  exact h4 p hp hpk hcp hlp
 .have e1:=hc p hp hcp
  rw[e1] at hcp ⊢;exact h.ok p hp hcp
 .rcases h.Sj l hl with e|⟨k,e⟩
  .unfold eU;rw[if_pos e,if_pos e]
  .unfold eU;rw[e,Int.toNat_natCast,hk l hl k e]
theorem DI.same{seq seq':Nat}{pa':Nat->Int}(h:DI M L Y pg pa seq)(hs:∀ p,p<M->o_ (pg p)->bM (pg p)<seq')(h0:∀ l,l<L->pa' l=-1\/∃ q:Nat,pa' l=(q:Int))(hn:∀ l,l<L->pa' l=-1->∀ p,p<M->o_ (pg p)->bT (pg p)≠l)
 (hb:∀ l,l<L->∀ q:Nat,pa' l=(q:Int)->q<M/\o_ (pg q)/\bT (pg q)=l/\∀ p,p<M->o_ (pg p)->bT (pg p)=l->bM (pg p)<=bM (pg q)):DI M L Y pg pa' seq'/\∀ l,l<L->pa' l=pa l:=by
 have key:∀ l,l<L->pa' l=pa l:=λl hl=>by
  rcases h0 l hl with e|⟨q,e⟩
  .rcases h.Sj l hl with e2|⟨q2,e2⟩
   .rw[e,e2]
   .obtain⟨g1,g2,g3,g4⟩:=h.some l hl q2 e2
    exact(hn l hl e q2 g1 g2 g3).elim
  .obtain⟨f1,f2,f3,f4⟩:=hb l hl q e
   rcases h.Sj l hl with e2|⟨q2,e2⟩
   .exact(h.none l hl e2 q f1 f2 f3).elim
   .obtain⟨g1,g2,g3,g4⟩:=h.some l hl q2 e2
    by_cases eq:q=q2
    .rw[e,e2,eq]
    .have a1:=g4 q f1 eq f2 f3
     have a2:=f4 q2 g1 g2 g3
     omega
 refine⟨⟨h.pz,λl hl e=>h.none l hl (by rw[<-key l hl];exact e),λl hl q e=>h.some l hl q (by rw[<-key l hl];exact e),λp hp hc=>?_,λl hl=>by rw[key l hl];exact h.Sj l hl⟩,key⟩
 obtain⟨g1,g2,g3⟩:=h.ok p hp hc
 exact⟨g1,hs p hp hc,g3⟩
theorem Eo:∀ (L:Nat) (l:List Nat),l.Nodup->(∀ x∈l,x<L)->l.length<=L
 |0,l,_,h=>by
  cases l with
  |nil=>simp
  |cons x xs=>have:=h x (by simp);omega
 |L+1,l,hn,h=>by
  have h1:=Eo L (l.filter (· != L)) (hn.filter _) (λx hx=>by
   rw[List.mem_filter] at hx
   have:=h x hx.1
   have h2:x≠L:=by simpa using hx.2
   omega)
  have h2:∀ (l:List Nat),l.Nodup->l.length<=(l.filter (· != L)).length+1:=by
   intro l
   induction l with
   |nil=>intro _;simp
   |cons x xs ih =>
    intro hn
    rw[List.nodup_cons] at hn
    by_cases e:x=L
    .subst e
     have:xs.filter (· != x)=xs:=by
      rw[List.filter_eq_self]
      intro y hy
      have:y≠x:=λe=>hn.1 (e▸hy)
      simpa using this
     simp[this]
    .have e2:(x != L)=true:=by simpa using e
     have e3:(x::xs).filter (· != L)=x::xs.filter (· != L):=by simp[e]
     rw[e3]
     have:=ih hn.2
     simp only[List.length_cons]
     omega
  have:=h2 l hn
  omega
def RH(lb:Nat->Int):Nat->List Nat
 |0=>[]
 |k+1=>if lb k=-1 then RH lb k else(lb k).toNat::RH lb k
theorem Jv(lb:Nat->Int):∀ k,(RH lb k).length=eY lb k
 |0=>rfl
 |k+1=>by
  have ih:=Jv lb k
  rw[RH,eY]
  by_cases h:lb k=-1
  .rw[if_pos h,if_pos h,ih];rfl
  .rw[if_neg h,if_neg h,List.length_cons,ih]
theorem BH{L M:Nat}{s:Bk}(h:Inv L M s):∀ k,k<=M->∀ x,x∈RH s.lb k->∃ p,p<k/\s.lb p=(x:Int)
 |0,_,x,hx=>by simp[RH] at hx
 |k+1,hk,x,hx=>by
  have ih:=BH h k (by omega)
  rw[RH] at hx
  by_cases e:s.lb k=-1
  .rw[if_pos e] at hx
   obtain⟨p,hp,ep⟩:=ih x hx
   exact⟨p,by omega,ep⟩
  .rw[if_neg e] at hx
   rcases List.mem_cons.1 hx with rfl|hx
   .rcases h.o k (by omega) with e2|⟨l,_,e2,_⟩
    .exact(e e2).elim
    .exact⟨k,by omega,by omega⟩
   .obtain⟨p,hp,ep⟩:=ih x hx
    exact⟨p,by omega,ep⟩
theorem Ah{L M:Nat}{s:Bk}(h:Inv L M s):∀ k,k<=M->(RH s.lb k).Nodup
 |0,_=>by simp[RH]
 |k+1,hk=>by
  have ih:=Ah h k (by omega)
  rw[RH]
  by_cases e:s.lb k=-1
  .rw[if_pos e];exact ih
  .rw[if_neg e,List.nodup_cons]
   refine⟨λhx=>?_,ih⟩
   obtain⟨p,hp,ep⟩:=BH h k (by omega) _ hx
   rcases h.o k (by omega) with e2|⟨l,_,e2,e3⟩
   .exact e e2
   .rcases h.o p (by omega) with e4|⟨l',_,e4,e5⟩
    .omega
    .have:l'=l:=by omega
     subst this
     omega
theorem Sk(h:Inv L M s):eY s.lb M<=L:=by
 rw[<-Jv]
 refine Eo L _ (Ah h M (Nat.le_refl _)) (λx hx=>?_)
 obtain⟨p,hp,e⟩:=BH h M (Nat.le_refl _) x hx
 rcases h.o p hp with e2|⟨l,hl,e2,_⟩
 .omega
 .omega
def fV(f:Nat->Nat):Nat->Nat
 |0=>0
 |k+1=>fV f k+f k
theorem vE{f g:Nat->Nat}:∀ n,(∀ k,k<n->f k<=g k)->fV f n<=fV g n
 |0,_=>Nat.le_refl _
 |n+1,h=>by
  have:=vE n (λk hk=>h k (by omega))
  have:=h n (by omega)
  rw[fV,fV]
  omega
theorem wE{f g:Nat->Nat}:∀ n,(∀ k,k<n->f k=g k)->fV f n=fV g n
 |0,_=>rfl
 |n+1,h=>by rw[fV,fV,wE n (λk hk=>h k (by omega)),h n (by omega)]
theorem ni{f g:Nat->Nat}{k:Nat}:∀ n,k<n->(∀ i,i<n->i≠k->g i=f i)->fV g n+f k=fV f n+g k
 |0,h,_=>by omega
 |n+1,h,hg=>by
  rw[fV,fV]
  by_cases e:k=n
  .subst e
   have:=wE k (λi hi=>hg i (by omega) (by omega))
   omega
  .have:=ni n (by omega) (λi hi hne=>hg i (by omega) hne)
   have:=hg n (by omega) (λe'=>e e'.symm)
   omega
theorem Ep(f:Nat->Int)(a:Nat):∀ b,eY f (a+b)=eY f a+eY (λi=>f (a+i)) b
 |0=>rfl
 |b+1=>by
  rw[<-Nat.add_assoc,eY,eY,Ep f a b]
  omega
def aY(P:Nat)(s:Bk)(k:Nat):Nat:=eY (λi=>s.lb (k*P+i)) P
theorem Er(P:Nat)(s:Bk):∀ N,fV (aY P s) N=eY s.lb (N*P)
 |0=>by rw[Nat.zero_mul];rfl
 |N+1=>by
  rw[fV,Er P s N,Nat.add_mul,Nat.one_mul,Ep]
  rfl
theorem qI(P:Nat)(s:Bk)(k:Nat):aY P s k<=P:=Bw _ _
structure n_ where
 next:Nat->Nat
 bad:Nat->Bool
def cZ(P:Nat)(c:n_)(k:Nat):Nat:=if c.bad k=true then 0 else P-c.next k
def aN(P N:Nat)(c:n_):Nat:=fV (cZ P c) N
def bX(N:Nat)(c:n_):Nat:=fV (λk=>if c.bad k=true then 1 else 0) N
def sj(P N:Nat)(c:n_):Prop:=∀ i k,i<N->k<N->c.bad i=false->c.bad k=false->0<c.next i->c.next i<P->0<c.next k->c.next k<P->i=k
def Full(P:Nat)(c:n_)(k:Nat):Prop:=c.bad k=false/\c.next k=P
theorem BJ{P N spare:Nat}{c:n_}(hI:Inv L (N*P) s)(hP:1<=P)(h1:sj P N c)(hb:bX N c<=spare)(hs:spare+4<=N)(hL:L<=(N-spare-4)*P)(hn:∀ k,c.next k<=P)(hlt:aN P N c<(spare-bX N c+3)*P):∃ k,k<N/\Full P c k/\aY P s k<P:=by
 refine Classical.byContradiction λhno=>?_
 have hfull:∀ k,k<N->Full P c k->aY P s k=P:=λk hk hF=>by
  have:=qI P s k
  rcases Nat.lt_or_ge (aY P s k) P with h|h
  .exact(hno ⟨k,hk,hF,h⟩).elim
  .omega
 -- each block is bad,or full and all live,or blank,or the one in between
 have key:∀ n,n<=N->n*P<=fV (aY P s) n+aN P n c+bX n c*P+P/\((∀ k,k<n->c.bad k=false->¬(0<c.next k/\c.next k<P))->n*P<=fV (aY P s) n+aN P n c+bX n c*P):=by
  intro n
  induction n with
  |zero=>intro _;simp[aN,bX,fV]
  |succ n ih =>
   intro hn1
   obtain⟨i1,i2⟩:=ih (by omega)
   have e1:fV (aY P s) (n+1)=fV (aY P s) n+aY P s n:=rfl
   have e2:aN P (n+1) c=aN P n c+cZ P c n:=rfl
   have e3:bX (n+1) c=bX n c+(if c.bad n=true then 1 else 0):=rfl
   have e4:(n+1)*P=n*P+P:=by rw[Nat.add_mul,Nat.one_mul]
   rw[e1,e2,e3,e4]
   have hnx:=hn n
   cases hbad:c.bad n with
   |true =>
    have e5:(bX n c+1)*P=bX n c*P+P:=by rw[Nat.add_mul,Nat.one_mul]
    simp only[if_true]
    rw[e5]
    refine⟨by omega,λh=>?_⟩
    have:=i2 (λk hk=>h k (by omega))
    omega
   |false =>
    have e5:cZ P c n=P-c.next n:=by unfold cZ;rw[hbad];rfl
    simp only[Bool.false_eq_true,if_false,Nat.add_zero]
    rw[e5]
    by_cases hf:c.next n=P
    .have:=hfull n (by omega) ⟨hbad,hf⟩
     refine⟨by omega,λh=>?_⟩
     have:=i2 (λk hk=>h k (by omega))
     omega
    .by_cases h0:c.next n=0
     .refine⟨by omega,λh=>?_⟩
      have:=i2 (λk hk=>h k (by omega))
      omega
     ·-- the one in between: no other ahead of it
      have hnone:∀ k,k<n->c.bad k=false->¬(0<c.next k/\c.next k<P):=λk hk hbk ⟨q1,q2⟩=>by
       have:=h1 k n (by omega) (by omega) hbk hbad q1 q2 (by omega) (by omega)
       omega
      have:=i2 hnone
      refine⟨by omega,λh=>?_⟩
      exact(h n (by omega) hbad ⟨by omega,by omega⟩).elim
 obtain⟨k1,_⟩:=key N (Nat.le_refl _)
 rw[Er] at k1
 have hlv:=Sk hI
 have e6:N*P=(N-spare-4)*P+(spare+4)*P:=by rw[<-Nat.add_mul];congr 1;omega
 have e7:(spare+4)*P=(spare-bX N c+3)*P+(bX N c*P+P):=by
  rw[<-Nat.succ_mul,<-Nat.add_mul];congr 1;omega
 omega
variable {s:Bk} {c:n_} {L N P b k:Nat} {f:Nat->Int}
def bU(P N spare:Nat)(c:n_):Nat:=(spare-bX N c+3)*P
def Room(P N spare k:Nat)(s:Bk)(c:n_):Prop:=bU P N spare c<=aN P N c\/∃ v,v<N/\Full P c v/\aY P s v<P/\bU P N spare c<=aN P N c+(P-aY P s v)+k
theorem Room.more{spare k':Nat}(h:Room P N spare k s c)(hk:k<=k'):Room P N spare k' s c:=by
 rcases h with h|⟨v,h1,h2,h3,h4⟩
 .exact Or.inl h
 .exact Or.inr ⟨v,h1,h2,h3,by omega⟩
theorem vI{spare:Nat}:3*P<=bU P N spare c:=by
 unfold bU
 rw[Nat.add_mul]
 omega
def dQ(c:n_)(b:Nat):n_:=⟨upd c.next b (c.next b+1),c.bad⟩
theorem wG:bX N (dQ c b)=bX N c:=rfl
theorem Ls{spare:Nat}:bU P N spare (dQ c b)=bU P N spare c:=rfl
theorem wJ(hb:b<N)(hg:c.bad b=false)(hn:c.next b<P):aN P N (dQ c b)+1=aN P N c:=by
 have h:=ni (f:=cZ P c) (g:=cZ P (dQ c b)) (k:=b) N hb (λi hi hne=>by
  unfold cZ dQ
  dsimp only
  rw[upd_ne _ _ _ _ hne])
 have e1:cZ P c b=P-c.next b:=by unfold cZ;rw[hg];rfl
 have e2:cZ P (dQ c b) b=P-(c.next b+1):=by
  unfold cZ dQ
  dsimp only
  rw[upd_same,hg];rfl
 unfold aN
 omega
theorem Lu{v:Nat}(hb:c.next b<P)(hv:Full P c v):v≠b/\Full P (dQ c b) v:=by
 have hne:v≠b:=by rintro rfl;have:=hv.2;omega
 refine⟨hne,hv.1,?_⟩
 show upd c.next b (c.next b+1) v=P
 rw[upd_ne _ _ _ _ hne];exact hv.2
def vk(P N:Nat)(c:n_)(b:Nat):Prop:=b<N/\c.bad b=false/\c.next b<P/\(c.next b=0->∀ i,i<N->c.bad i=false->¬(0<c.next i/\c.next i<P))
theorem N8(h:sj P N c)(hx:vk P N c b):sj P N (dQ c b):=by
 obtain⟨h1,h2,h3,h4⟩:=hx
 have key:∀ i,i<N->c.bad i=false->0<(dQ c b).next i->(dQ c b).next i<P->i=b:=by
  intro i hi hbi q1 q2
  by_cases e:i=b
  .exact e
  .have e2:(dQ c b).next i=c.next i:=upd_ne _ _ _ _ e
   rw[e2] at q1 q2
   by_cases h0:c.next b=0
   .exact(h4 h0 i hi hbi ⟨q1,q2⟩).elim
   .exact h i b hi h1 hbi h2 q1 q2 (by omega) h3
 intro i k hi hk hbi hbk q1 q2 q3 q4
 rw[key i hi hbi q1 q2,key k hk hbk q3 q4]
def g_(c:n_)(v:Nat):n_:=⟨upd c.next v 0,c.bad⟩
theorem wL{v:Nat}(hv:v<N)(hF:Full P c v):aN P N (g_ c v)=aN P N c+P:=by
 have h:=ni (f:=cZ P c) (g:=cZ P (g_ c v)) (k:=v) N hv (λi hi hne=>by
  unfold cZ g_
  dsimp only
  rw[upd_ne _ _ _ _ hne])
 have e1:cZ P c v=0:=by unfold cZ;rw[hF.1,hF.2];simp
 have e2:cZ P (g_ c v) v=P:=by
  unfold cZ g_
  dsimp only
  rw[upd_same,hF.1];rfl
 unfold aN
 omega
theorem N9{v:Nat}(h:sj P N c):sj P N (g_ c v):=by
 have key:∀ i,0<(g_ c v).next i->i≠v/\(g_ c v).next i=c.next i:=λi q=>by
  by_cases e:i=v
  .subst e
   have:(g_ c i).next i=0:=upd_same _ _ _
   omega
  .exact⟨e,upd_ne _ _ _ _ e⟩
 intro i k hi hk hbi hbk q1 q2 q3 q4
 obtain⟨_,e1⟩:=key i q1
 obtain⟨_,e2⟩:=key k q3
 rw[e1] at q1 q2
 rw[e2] at q3 q4
 exact h i k hi hk hbi hbk q1 q2 q3 q4
def fu(c:n_)(v:Nat):n_:=⟨c.next,upd c.bad v true⟩
theorem wM{v:Nat}(hv:v<N)(hF:Full P c v):aN P N (fu c v)=aN P N c:=by
 have h:=ni (f:=cZ P c) (g:=cZ P (fu c v)) (k:=v) N hv (λi hi hne=>by
  have e:(fu c v).bad i=c.bad i:=upd_ne _ _ _ _ hne
  show (if (fu c v).bad i=true then 0 else P-c.next i)=(if c.bad i=true then 0 else P-c.next i)
  simp only[e])
 have e1:cZ P c v=0:=by unfold cZ;rw[hF.1,hF.2];simp
 have e2:cZ P (fu c v) v=0:=by
  have e:(fu c v).bad v=true:=upd_same _ _ _
  show (if (fu c v).bad v=true then 0 else P-c.next v)=0
  simp only[e,if_true]
 unfold aN
 omega
theorem Es{v:Nat}(hv:v<N)(hg:c.bad v=false):bX N (fu c v)=bX N c+1:=by
 have h:=ni (f:=λk=>if c.bad k=true then 1 else 0) (g:=λk=>if (fu c v).bad k=true then 1 else 0) (k:=v) N hv (λi hi hne=>by
  show (if upd c.bad v true i=true then 1 else 0)=_
  rw[upd_ne _ _ _ _ hne])
 have e1:(if c.bad v=true then 1 else 0)=0:=by rw[hg];rfl
 have e2:(if (fu c v).bad v=true then 1 else 0)=1:=by
  show (if upd c.bad v true v=true then 1 else 0)=1
  rw[upd_same];rfl
 simp only[e1,e2] at h
 unfold bX
 omega
theorem N_{v:Nat}(h:sj P N c):sj P N (fu c v):=by
 have key:∀ i,(fu c v).bad i=false->c.bad i=false:=λi q=>by
  by_cases e:i=v
  .subst e
   have:(fu c i).bad i=true:=upd_same _ _ _
   rw[this] at q;cases q
  .have:(fu c v).bad i=c.bad i:=upd_ne _ _ _ _ e
   rw[<-this];exact q
 intro i k hi hk hbi hbk q1 q2 q3 q4
 exact h i k hi hk (key i hbi) (key k hbk) q1 q2 q3 q4
structure Fit(L P N spare:Nat):Prop where
 p1:1<=P
 n4:spare+4<=N
 l1:L<=(N-spare-4)*P
theorem wP{spare:Nat}{s s':Bk}(hF:Fit L P N spare)(hI:Inv L (N*P) s')(h1:sj P N (dQ c b))(hn:∀ k,(dQ c b).next k<=P)(hb:bX N c<=spare)(hx:b<N/\c.bad b=false/\c.next b<P)(h:bU P N spare c<=aN P N c):Room P N spare 0 s' (dQ c b):=by
 have e:=wJ hx.1 hx.2.1 hx.2.2
 by_cases h2:bU P N spare (dQ c b)<=aN P N (dQ c b)
 .exact Or.inl h2
 .obtain⟨v,hv,hf,hl⟩:=BJ hI hF.p1 h1 (by rw[wG];exact hb) hF.n4 hF.l1 hn (by unfold bU at h2;omega)
  refine Or.inr ⟨v,hv,hf,hl,?_⟩
  rw[Ls]
  omega
theorem wQ{L spare v:Nat}(h:Room P N spare k s c)(hs:aN P N c<bU P N spare c)(hv:v<N/\Full P c v/\aY P s v<P)(hmin:∀ u,u<N->Full P c u->aY P s u<P->aY P s v<=aY P s u):bU P N spare c<=aN P N c+(P-aY P s v)+k:=by
 rcases h with h|⟨u,h1,h2,h3,h4⟩
 .omega
 .have:=hmin u h1 h2 h3
  omega
theorem GZ{spare v:Nat}(hF:Fit L P N spare)(hI:Inv L (N*P) s)(h1:sj P N (g_ c v))(hn:∀ i,(g_ c v).next i<=P)(hb:bX N c<=spare)(hv:v<N/\Full P c v)(h:bU P N spare c<=aN P N c+P+k):Room P N spare k s (g_ c v):=by
 have e:=wL hv.1 hv.2
 have e2:bU P N spare (g_ c v)=bU P N spare c:=rfl
 by_cases h2:bU P N spare (g_ c v)<=aN P N (g_ c v)
 .exact Or.inl h2
 .obtain⟨u,hu,hf,hl⟩:=BJ hI hF.p1 h1 hb hF.n4 hF.l1 hn (by unfold bU at h2;omega)
  exact Or.inr ⟨u,hu,hf,hl,by omega⟩
theorem Et{spare v:Nat}(hF:Fit L P N spare)(hI:Inv L (N*P) s)(h1:sj P N (fu c v))(hn:∀ i,(fu c v).next i<=P)(hb:bX N (fu c v)<=spare)(hv:v<N/\Full P c v)(h:bU P N spare c<=aN P N c+P+k):Room P N spare k s (fu c v):=by
 have e:=wM hv.1 hv.2
 have e1:=Es hv.1 hv.2.1
 have e2:bU P N spare c=bU P N spare (fu c v)+P:=by
  unfold bU
  rw[e1,<-Nat.succ_mul]
  congr 1
  omega
 by_cases h2:bU P N spare (fu c v)<=aN P N (fu c v)
 .exact Or.inl h2
 .obtain⟨u,hu,hf,hl⟩:=BJ hI hF.p1 h1 hb hF.n4 hF.l1 hn (by unfold bU at h2;omega)
  exact Or.inr ⟨u,hu,hf,hl,by omega⟩
theorem BK(h:0<aN P N c):∃ k,k<N/\c.bad k=false/\c.next k<P:=by
 refine Classical.byContradiction λhno=>?_
 have:fV (cZ P c) N<=fV (λ_=>0) N:=vE N (λk hk=>by
  unfold cZ
  cases hb:c.bad k with
  |true=>simp
  |false =>
   have:¬c.next k<P:=λe=>hno ⟨k,hk,hb,e⟩
   simp;omega)
 have h0:∀ n,fV (λ_=>0) n=0:=λn=>by
  induction n with
  |zero=>rfl
  |succ n ih=>rw[fV,ih]
 rw[h0] at this
 unfold aN at h
 omega
theorem Eu{f g:Nat->Int}{k:Nat}:∀ n,k<n->(∀ i,i<n->i≠k->g i=f i)->eY g n+(if f k=-1 then 0 else 1)=eY f n+(if g k=-1 then 0 else 1)
 |0,h,_=>by omega
 |n+1,h,hg=>by
  rw[eY,eY]
  by_cases e:k=n
  .subst e
   have h2:∀ m,m<=k->eY g m=eY f m:=λm hm=>by
    induction m with
    |zero=>rfl
    |succ m ih=>rw[eY,eY,ih (by omega),hg m (by omega) (by omega)]
   have:=h2 k (Nat.le_refl _)
   omega
  .have:=Eu n (by omega) (λi hi hne=>hg i (by omega) hne)
   have:=hg n (by omega) (λe'=>e e'.symm)
   rw[this]
   omega
theorem wR{f g:Nat->Int}:∀ n,(∀ i,i<n->g i=f i)->eY g n=eY f n
 |0,_=>rfl
 |n+1,h=>by rw[eY,eY,wR n (λi hi=>h i (by omega)),h n (by omega)]
theorem Ai{f:Nat->Int}:∀ n,(∀ i,i<n->f i=-1)->eY f n=0
 |0,_=>rfl
 |n+1,h=>by rw[eY,Ai n (λi hi=>h i (by omega)),h n (by omega)];rfl
end Go.Proofs.ay
namespace Go.Proofs.ay
open Go.RowKit
variable {xs:List Nat} {N P Y i j k:Nat} {bytes:Nat->List Nat}
theorem Aj{l:List Nat}{off:Nat}(h:off+xs.length<=l.length):(splice l off xs)[i]?=if i<off then l[i]? else if i<off+xs.length then xs[i-off]? else l[i]?:=by
 unfold splice
 have hl:(l.take off).length=off:=by simp;omega
 by_cases h1:i<off
 .rw[if_pos h1,List.getElem?_append_left (by rw[hl];exact h1),List.getElem?_take,if_pos h1]
 .rw[if_neg h1,List.getElem?_append_right (by rw[hl];omega),hl]
  by_cases h2:i<off+xs.length
  .rw[if_pos h2,List.getElem?_append_left (by omega)]
  .rw[if_neg h2,List.getElem?_append_right (by omega),List.getElem?_drop]
   congr 1;omega
theorem BP{l:List Nat}{a n:Nat}:(dU l a n)[i]?=if i<n then l[a+i]? else none:=by
 unfold dU
 rw[List.getElem?_take]
 split
 .rw[List.getElem?_drop]
 .rfl
theorem Oa{l:List Nat}(hx:xs.length<=Y)(hl:j*Y+Y<=l.length):dU (splice l (j*Y) xs) (j*Y) Y=xs++(dU l (j*Y) Y).drop xs.length:=by
 apply List.ext_getElem?
 intro i
 rw[BP,Aj (by omega)]
 by_cases h1:i<xs.length
 .rw[if_pos (by omega),if_neg (by omega),if_pos (by omega),List.getElem?_append_left h1]
  congr 1;omega
 .rw[List.getElem?_append_right (by omega),List.getElem?_drop,BP]
  by_cases h2:i<Y
  .rw[if_pos h2,if_neg (by omega),if_neg (by omega),if_pos (by omega)]
   congr 1;omega
  .rw[if_neg h2,if_neg (by omega)]
theorem Ak{l:List Nat}(hx:xs.length<=Y)(hl:j*Y+Y<=l.length)(hij:i≠j):dU (splice l (j*Y) xs) (i*Y) Y=dU l (i*Y) Y:=by
 apply List.ext_getElem?
 intro k
 rw[BP,BP]
 by_cases hk:k<Y
 .rw[if_pos hk,if_pos hk,Aj (by omega)]
  rcases Nat.lt_or_gt_of_ne hij with h|h
  .have:i*Y+Y<=j*Y:=by rw[<-Nat.succ_mul];exact Nat.mul_le_mul_right Y h
   rw[if_pos (by omega)]
  .have:j*Y+Y<=i*Y:=by rw[<-Nat.succ_mul];exact Nat.mul_le_mul_right Y h
   rw[if_neg (by omega),if_neg (by omega)]
 .rw[if_neg hk,if_neg hk]
theorem vJ{n v a:Nat}(h:a+k<=n):dU (List.replicate n v) a k=List.replicate k v:=by
 unfold dU
 rw[List.drop_replicate,List.take_replicate]
 congr 1;omega
def fP(P Y:Nat)(bytes:Nat->List Nat)(p:Nat):List Nat:=dU (bytes (p/P)) (p%P*Y) Y
theorem div_mul(h:j<P):(k*P+j)/P=k/\(k*P+j)%P=j:=by
 have hP:0<P:=by omega
 refine⟨?_,?_⟩
 .rw[Nat.mul_comm,Nat.mul_add_div hP,Nat.div_eq_of_lt h,Nat.add_zero]
 .rw[Nat.mul_comm,Nat.mul_add_mod,Nat.mod_eq_of_lt h]
theorem Ob(h:j<P):fP P Y bytes (k*P+j)=dU (bytes k) (j*Y) Y:=by
 unfold fP
 rw[(div_mul h).1,(div_mul h).2]
theorem wS(hk:k<N)(hj:j<P):k*P+j<N*P:=by
 have:k*P+P<=N*P:=by rw[<-Nat.succ_mul];exact Nat.mul_le_mul_right P hk
 omega
theorem nk{p:Nat}(hp:p<N*P):p/P<N/\p%P<P/\p=p/P*P+p%P:=by
 have hP:0<P:=by
  rcases Nat.eq_zero_or_pos P with e|e
  .rw[e,Nat.mul_zero] at hp;omega
  .exact e
 refine⟨?_,Nat.mod_lt _ hP,?_⟩
 .rw[Nat.div_lt_iff_lt_mul hP];exact hp
 .have:=Nat.div_add_mod p P;rw[Nat.mul_comm] at this;omega
theorem Jw(hk:k<N)(hj:j<P)(hx:xs.length<=Y)(hl:(bytes k).length=P*Y):∀ p,p<N*P->fP P Y (upd bytes k (splice (bytes k) (j*Y) xs)) p=upd (fP P Y bytes) (k*P+j) (xs++(dU (bytes k) (j*Y) Y).drop xs.length) p:=by
 intro p hp
 obtain⟨h1,h2,h3⟩:=nk hp
 have hjY:j*Y+Y<=(bytes k).length:=by rw[hl,<-Nat.succ_mul];exact Nat.mul_le_mul_right Y hj
 by_cases e:p=k*P+j
 .rw[e,upd_same,Ob hj,upd_same]
  exact Oa hx hjY
 .rw[upd_ne _ _ _ _ e]
  unfold fP
  by_cases ek:p/P=k
  .rw[ek,upd_same]
   refine Ak hx hjY (λej=>e ?_)
   rw[h3,ek,ej]
  .rw[upd_ne _ _ _ _ ek]
theorem Oc{v:Nat}:∀ p,p<N*P->fP P Y (upd bytes k (List.replicate (P*Y) v)) p=if p/P=k then List.replicate Y v else fP P Y bytes p:=by
 intro p hp
 obtain⟨h1,h2,h3⟩:=nk hp
 unfold fP
 by_cases ek:p/P=k
 .rw[if_pos ek,ek,upd_same]
  exact vJ (by rw[<-Nat.succ_mul];exact Nat.mul_le_mul_right Y h2)
 .rw[if_neg ek,upd_ne _ _ _ _ ek]
theorem wU{n:Nat}:¬o_ (List.replicate n 255):=λh=>by
 have:=ng h.1
 rw[List.getElem?_replicate] at this
 split at this<;>simp at this
theorem Lv{n:Nat}:¬o_ (List.replicate n 0):=λh=>by
 have:=ng h.1
 rw[List.getElem?_replicate] at this
 split at this<;>simp at this
theorem Sn{p:List Nat}(h:k<p.length):¬o_ (wu p k):=λhc=>El h hc.1
theorem Sq{n gH seq:Nat}{data:List Nat}(h:Dy n 3 gH seq data.length):¬o_ (aR n 3 gH seq data):=λhc=>by
 have:=(m_ h).1
 rcases hc.2 with e|e<;>omega
theorem BS{n v:Nat}(h:v<256):aW (List.replicate n v):=λx hx=>by
 rw[List.eq_of_mem_replicate hx];exact h
variable {k:Bk} {c:n_} {L N P Y b:Nat} {bytes:Nat->List Nat}
structure DV(N P Y L:Nat)(bytes:Nat->List Nat)(c:n_)(k:Bk)(seq:Nat):Prop where
 di:DI (N*P) L Y (fP P Y bytes) k.pa seq
 inv:Inv L (N*P) k
 bl:∀ b,b<N->c.bad b=false->∀ j,c.next b<=j->j<P->dU (bytes b) (j*Y) Y=List.replicate Y 255
 one:sj P N c
 nx:∀ b,c.next b<=P
 len:∀ b,b<N->(bytes b).length=P*Y
def nu(P Y:Nat)(bytes:Nat->List Nat)(k:Bk)(l:Nat):List Nat:=eU Y (fP P Y bytes) k.pa l
theorem DI.congr{M seq:Nat}{pg Lr:Nat->List Nat}{pa:Nat->Int}(h:DI M L Y pg pa seq)(he:∀ p,p<M->Lr p=pg p):DI M L Y Lr pa seq/\∀ l,l<L->eU Y Lr pa l=eU Y pg pa l :=
 h.lose ⟨λp hp=>by rw[he p hp];exact h.pz.len p hp,λp hp=>by rw[he p hp];exact h.pz.all p hp⟩ (λp hp=>Or.inl (he p hp)) (λl hl q e=>he q (h.some l hl q e).1)
theorem DV.blank{seq:Nat}(h:DV N P Y L bytes c k seq)(hx:vk P N c b):¬o_ (fP P Y bytes (b*P+c.next b))/\b*P+c.next b<N*P/\k.lb (b*P+c.next b)=-1:=by
 have hq:=wS hx.1 hx.2.2.1
 have hn:¬o_ (fP P Y bytes (b*P+c.next b)):=by
  rw[Ob hx.2.2.1,h.bl b hx.1 hx.2.1 _ (Nat.le_refl _) hx.2.2.1]
  exact wU
 refine⟨hn,hq,?_⟩
 rcases h.inv.o _ hq with e|⟨l,hl,e1,e2⟩
 .exact e
 .exact(hn (h.di.some l hl _ e2).2.1).elim
theorem DV.rest{seq:Nat}(h:DV N P Y L bytes c k seq)(hx:vk P N c b){xs:List Nat}(hxs:xs.length<=Y) :
 (∀ i,i<N->(dQ c b).bad i=false->∀ j,(dQ c b).next i<=j->j<P->dU (upd bytes b (splice (bytes b) (c.next b*Y) xs) i) (j*Y) Y=List.replicate Y 255)/\sj P N (dQ c b)/\(∀ i,(dQ c b).next i<=P)/\(∀ i,i<N->(upd bytes b (splice (bytes b) (c.next b*Y) xs) i).length=P*Y):=by
 have hY:c.next b*Y+Y<=(bytes b).length:=by rw[h.len b hx.1,<-Nat.succ_mul];exact Nat.mul_le_mul_right Y hx.2.2.1
 refine⟨λi hi hbi j hj Sr=>?_,N8 h.one hx,λi=>?_,λi hi=>?_⟩
 .by_cases e:i=b
  .subst e
   have e2:(dQ c i).next i=c.next i+1:=upd_same _ _ _
   rw[e2] at hj
   rw[upd_same,Ak hxs hY (by omega)]
   exact h.bl i hi hbi j (by omega) Sr
  .have e2:(dQ c b).next i=c.next i:=upd_ne _ _ _ _ e
   rw[e2] at hj
   rw[upd_ne _ _ _ _ e]
   exact h.bl i hi hbi j hj Sr
 .by_cases e:i=b
  .subst e
   have e2:(dQ c i).next i=c.next i+1:=upd_same _ _ _
   have:=hx.2.2.1
   omega
  .have e2:(dQ c b).next i=c.next i:=upd_ne _ _ _ _ e
   rw[e2];exact h.nx i
 .by_cases e:i=b
  .subst e
   rw[upd_same]
   unfold splice
   rw[List.length_append,List.length_append,List.length_take,List.length_drop,h.len i hi]
   rw[h.len i hi] at hY
   omega
  .rw[upd_ne _ _ _ _ e];exact h.len i hi
theorem DV.put{seq kind l:Nat}{data:List Nat}(h:DV N P Y L bytes c k seq)(hx:vk P N c b)(hF:Dy Y kind l seq data.length)(hk:kind=1\/kind=2)(hd1:kind=1->data.length+21=Y)(hd2:kind=2->data=[])(hA:aW data)(hl:l<L) :
 DV N P Y L (upd bytes b (splice (bytes b) (c.next b*Y) (aR Y kind l seq data))) (dQ c b) (jP k l (b*P+c.next b)) (seq+1)/\∀ j,j<L->nu P Y (upd bytes b (splice (bytes b) (c.next b*Y) (aR Y kind l seq data))) (jP k l (b*P+c.next b)) j=if j=l then(if kind=1 then data else List.replicate (Y-21) 0) else nu P Y bytes k j:=by
 obtain⟨hn,hq,hlb⟩:=h.blank hx
 have hlen:(aR Y kind l seq data).length=Y:=gJ Y kind l seq data hF.d1
 obtain⟨r1,r2,r3,r4⟩:=h.rest hx (xs:=aR Y kind l seq data) (by omega)
 obtain⟨d1,d2⟩:=h.di.put hF hk hd1 hd2 hA hl hq hn
 have he:∀ p,p<N*P->fP P Y (upd bytes b (splice (bytes b) (c.next b*Y) (aR Y kind l seq data))) p=upd (fP P Y bytes) (b*P+c.next b) (aR Y kind l seq data) p:=λp hp=>by
  rw[Jw hx.1 hx.2.2.1 (by omega) (h.len b hx.1) p hp]
  congr 1
  rw[List.drop_eq_nil_of_le,List.append_nil]
  unfold dU
  rw[List.length_take]
  omega
 obtain⟨d3,d4⟩:=d1.congr he
 refine⟨⟨?_,Ef h.inv hl hq (Or.inl hlb),r1,r2,r3,r4⟩,λj hj=>?_⟩
 .rw[Jt];exact d3
 .show eU Y _ (jP k l (b*P+c.next b)).pa j=_
  rw[Jt,d4 j hj]
  exact d2 j hj
theorem DV.junk{seq:Nat}{xs:List Nat}(h:DV N P Y L bytes c k seq)(hx:vk P N c b)(hxs:xs.length<=Y)(hA:aW xs)(hn:¬o_ (xs++List.replicate (Y-xs.length) 255)) :
 DV N P Y L (upd bytes b (splice (bytes b) (c.next b*Y) xs)) (dQ c b) k seq/\∀ j,j<L->nu P Y (upd bytes b (splice (bytes b) (c.next b*Y) xs)) k j=nu P Y bytes k j:=by
 obtain⟨hn0,hq,hlb⟩:=h.blank hx
 obtain⟨r1,r2,r3,r4⟩:=h.rest hx hxs
 have hX:xs++(dU (bytes b) (c.next b*Y) Y).drop xs.length=xs++List.replicate (Y-xs.length) 255:=by
  rw[h.bl b hx.1 hx.2.1 _ (Nat.le_refl _) hx.2.2.1,List.drop_replicate]
 obtain⟨d1,d2⟩:=h.di.junk (q:=b*P+c.next b) (x:=xs++List.replicate (Y-xs.length) 255) (by simp;omega) (aW.app hA (BS (by omega))) hn hn0
 have he:∀ p,p<N*P->fP P Y (upd bytes b (splice (bytes b) (c.next b*Y) xs)) p=upd (fP P Y bytes) (b*P+c.next b) (xs++List.replicate (Y-xs.length) 255) p:=λp hp=>by
  rw[Jw hx.1 hx.2.2.1 hxs (h.len b hx.1) p hp,hX]
 obtain⟨d3,d4⟩:=d1.congr he
 exact⟨⟨d3,h.inv,r1,r2,r3,r4⟩,λj hj=>(d4 j hj).trans (d2 j hj)⟩
theorem DV.note{seq gH sq:Nat}{data:List Nat}(h:DV N P Y L bytes c k seq)(hx:vk P N c b)(hF:Dy Y 3 gH sq data.length)(hA:aW data) :
 DV N P Y L (upd bytes b (splice (bytes b) (c.next b*Y) (aR Y 3 gH sq data))) (dQ c b) k seq/\∀ j,j<L->nu P Y (upd bytes b (splice (bytes b) (c.next b*Y) (aR Y 3 gH sq data))) k j=nu P Y bytes k j:=by
 have hlen:(aR Y 3 gH sq data).length=Y:=gJ Y 3 gH sq data hF.d1
 refine h.junk hx (by omega) (jr Y 3 gH sq data (by omega) hA) ?_
 rw[hlen,Nat.sub_self,List.replicate_zero,List.append_nil]
 exact Sq hF
theorem DV.abp{seq:Nat}{page:List Nat}(h:DV N P Y L bytes c k seq)(hx:vk P N c b)(hp:page.length=Y)(hY:8<=Y)(hA:aW page) :
 DV N P Y L (upd bytes b (splice (bytes b) (c.next b*Y) (page.take (Y/2)))) (dQ c b) k seq/\∀ j,j<L->nu P Y (upd bytes b (splice (bytes b) (c.next b*Y) (page.take (Y/2)))) k j=nu P Y bytes k j:=by
 have hl:(page.take (Y/2)).length=Y/2:=by rw[List.length_take];omega
 refine h.junk hx (by omega) (hA.take _) ?_
 rw[hl]
 have:page.take (Y/2)++List.replicate (Y-Y/2) 255=wu page (Y/2):=by unfold wu;rw[hp]
 rw[this]
 exact Sn (by omega)
theorem DV.fill{seq v x:Nat}{c':n_}(h:DV N P Y L bytes c k seq)(hv:v<N)(hfree:∀ i,i<P->k.lb (v*P+i)=-1)(hx:x=255\/x=0)
 (hb:∀ b,b<N->c'.bad b=false->∀ j,c'.next b<=j->j<P->dU (upd bytes v (List.replicate (P*Y) x) b) (j*Y) Y=List.replicate Y 255) (h1:sj P N c') (hn:∀ b,c'.next b<=P) :
 DV N P Y L (upd bytes v (List.replicate (P*Y) x)) c' k seq/\∀ j,j<L->nu P Y (upd bytes v (List.replicate (P*Y) x)) k j=nu P Y bytes k j:=by
 have hlt:x<256:=by omega
 have hno:¬o_ (List.replicate Y x):=by
  rcases hx with e|e
  .rw[e];exact wU
  .rw[e];exact Lv
 have hq:∀ p,p<N*P->fP P Y (upd bytes v (List.replicate (P*Y) x)) p=if p/P=v then List.replicate Y x else fP P Y bytes p:=λp hp=>Oc (N:=N) p hp
 obtain⟨d1,d2⟩:=h.di.lose (Lr:=fP P Y (upd bytes v (List.replicate (P*Y) x))) ⟨λp hp=>by
  rw[hq p hp];split
  .simp
  .exact h.di.pz.len p hp,λp hp=>by
  rw[hq p hp];split
  .exact BS hlt
  .exact h.di.pz.all p hp⟩ (λp hp=>by
  rw[hq p hp]
  by_cases e:p/P=v
  .rw[if_pos e];exact Or.inr hno
  .rw[if_neg e];exact Or.inl rfl) (λl hl q e=>by
  have hqM:=(h.di.some l hl q e).1
  rw[hq q hqM]
  by_cases e2:q/P=v
  .obtain⟨p1,p2,p3⟩:=nk hqM
   have e3:=hfree (q%P) p2
   rw[<-e2,<-p3] at e3
   rcases h.inv.a l hl with e4|⟨q',_,e5,e6⟩
   .omega
   .have:q'=q:=by omega
    subst this
    omega
  .rw[if_neg e2])
 refine⟨⟨d1,h.inv,hb,h1,hn,λb hb=>?_⟩,d2⟩
 by_cases e:b=v
 .subst e;rw[upd_same];simp
 .rw[upd_ne _ _ _ _ e];exact h.len b hb
theorem DV.aep{seq v:Nat}(h:DV N P Y L bytes c k seq)(hv:v<N)(hfree:∀ i,i<P->k.lb (v*P+i)=-1) :
 DV N P Y L (upd bytes v (List.replicate (P*Y) 255)) (g_ c v) k seq/\∀ j,j<L->nu P Y (upd bytes v (List.replicate (P*Y) 255)) k j=nu P Y bytes k j:=by
 refine h.fill hv hfree (Or.inl rfl) (λb hb hbad j hj Sr=>?_) (N9 h.one) (λb=>?_)
 .by_cases e:b=v
  .subst e
   rw[upd_same]
   exact vJ (by rw[<-Nat.succ_mul];exact Nat.mul_le_mul_right Y Sr)
  .have e2:(g_ c v).next b=c.next b:=upd_ne _ _ _ _ e
   rw[e2] at hj
   rw[upd_ne _ _ _ _ e]
   exact h.bl b hb hbad j hj Sr
 .by_cases e:b=v
  .subst e
   have:(g_ c b).next b=0:=upd_same _ _ _
   omega
  .have:(g_ c v).next b=c.next b:=upd_ne _ _ _ _ e
   rw[this];exact h.nx b
theorem DV.aer{seq v:Nat}{c':n_}(h:DV N P Y L bytes c k seq)(hv:v<N)(hF:Full P c v)(hc:∀ b,c'.next b=c.next b)(hc2:∀ b,c'.bad b=c.bad b)(hfree:∀ i,i<P->k.lb (v*P+i)=-1) :
 DV N P Y L (upd bytes v (List.replicate (P*Y) 0)) c' k seq/\∀ j,j<L->nu P Y (upd bytes v (List.replicate (P*Y) 0)) k j=nu P Y bytes k j:=by
 refine h.fill hv hfree (Or.inr rfl) (λb hb hbad j hj Sr=>?_) (λi j hi hj q1 q2 q3 q4 q5 q6=>?_) (λb=>by rw[hc];exact h.nx b)
 .rw[hc] at hj
  rw[hc2] at hbad
  by_cases e:b=v
  .subst e
   have:=hF.2
   omega
  .rw[upd_ne _ _ _ _ e]
   exact h.bl b hb hbad j hj Sr
 .rw[hc2] at q1 q2
  rw[hc] at q3 q4 q5 q6
  exact h.one i j hi hj q1 q2 q3 q4 q5 q6
theorem DV.fail{seq v:Nat}(h:DV N P Y L bytes c k seq):DV N P Y L bytes (fu c v) k seq:=by
 refine⟨h.di,h.inv,λb hb hbad j hj Sr=>?_,N_ h.one,h.nx,h.len⟩
 have e:c.bad b=false:=by
  by_cases e:b=v
  .subst e
   have:(fu c b).bad b=true:=upd_same _ _ _
   rw[this] at hbad;cases hbad
  .have:(fu c v).bad b=c.bad b:=upd_ne _ _ _ _ e
   rw[<-this];exact hbad
 exact h.bl b hb e j hj Sr
theorem DV.frame{seq l q:Nat}(h:DV N P Y L bytes c k seq)(hl:l<L)(hq:k.pa l=(q:Int)):q<N*P/\o_ (fP P Y bytes q)/\bT (fP P Y bytes q)=l/\nu P Y bytes k l=(if aQ (fP P Y bytes q)=1 then aT (fP P Y bytes q) else List.replicate (Y-21) 0)/\(aQ (fP P Y bytes q)=1->(aT (fP P Y bytes q)).length+21=Y)/\(aQ (fP P Y bytes q)=2->aT (fP P Y bytes q)=[]):=by
 obtain⟨h1,h2,h3,h4⟩:=h.di.some l hl q hq
 obtain⟨g1,g2,g3,g4⟩:=h.di.ok q h1 h2
 have hlong:(aT (fP P Y bytes q)).length=aX (fP P Y bytes q):=gL h2.1.1.d1
 refine⟨h1,h2,h3,?_,λe=>by rw[hlong];exact g3 e,λe=>?_⟩
 .unfold nu eU
  rw[hq,if_neg (by omega),Int.toNat_natCast]
 .have:=g4 e
  exact List.eq_nil_of_length_eq_zero (by rw[hlong];exact this)
theorem Ev{M v:Nat}{l q r:Nat}(hI:Inv L M k)(hl:l<L)(hpa:k.pa l=(r:Int))(hr:r/P=v)(hq:q/P≠v)(hP:0<P)(hrq:r≠q):aY P (jP k l q) v+1=aY P k v:=by
 have hlb:k.lb r=(l:Int):=by
  rcases hI.a l hl with e|⟨p,_,e1,e2⟩
  .omega
  .have:p=r:=by omega
   subst this;exact e2
 have hr2:r=v*P+r%P:=by have:=Nat.div_add_mod r P;rw[Nat.mul_comm,hr] at this;omega
 unfold aY
 have hother:∀ i,i<P->i≠r%P->(jP k l q).lb (v*P+i)=k.lb (v*P+i):=λi hi hne=>by
  have e1:v*P+i≠q:=λe=>hq (by rw[<-e];exact(div_mul hi).1)
  have e2:v*P+i≠r:=λe=>by omega
  show upd (fG k l).lb q (l:Int) (v*P+i)=_
  rw[upd_ne _ _ _ _ e1]
  show (if k.pa l=-1 then k.lb else upd k.lb (k.pa l).toNat (-1)) (v*P+i)=_
  rw[if_neg (by omega),hpa,Int.toNat_natCast,upd_ne _ _ _ _ e2]
 have hu:=Eu (f:=λi=>k.lb (v*P+i)) (g:=λi=>(jP k l q).lb (v*P+i)) (k:=r%P) P (Nat.mod_lt _ hP) hother
 have e3:(jP k l q).lb (v*P+r%P)=-1:=by rw[<-hr2];exact Ac hI hl hpa hrq
 have e4:k.lb (v*P+r%P)=(l:Int):=by rw[<-hr2];exact hlb
 simp only[e3,e4,if_true] at hu
 rw[if_neg (by omega)] at hu
 omega

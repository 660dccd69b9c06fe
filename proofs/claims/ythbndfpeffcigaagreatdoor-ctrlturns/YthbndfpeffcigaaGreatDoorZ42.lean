/- Part of the proof. -/
import Derived.Test.YthbndfpeffcigaaGreatDoorZ41
open Go.Proofs.Tryz (prog)
open Go.Proofs.ah.Al (PB)
namespace Go.Proofs.YthbndfpeffcigaaGreatDoor
open Go Go.Conc
abbrev Rs:Frame:={ fn:=33,tmps:=#[],todo:=[],defers:=[],mode:=.run,kind:=.normal }
theorem Iq(x:Value):Frame.enter (PB prog false) 33 #[x] .normal=Rs.at ⟨#[x]++Array.replicate 6 undef,[]⟩ [.code ah.Al.zq]:=by kernel_rfl
theorem EU:((PB prog false).funcs[(33:Nat)]?).map (·.params.size)=some 1:=by kernel_rfl
theorem J9{a:Array Value}(h:a.size=1):∃ x,a=#[x]:=by
 obtain⟨l⟩:=a
 match l,h with
 | [x],_=>exact⟨x,rfl⟩
section
variable {fns:Fx} {Z:Nat->Prop} {Fin:Goroutine->World->Prop} {E:Nat->Nat->Prop} {gh w:World} {b c c':Frame} {cs cs' k:List Frame} {S:Nat->Prop} {gs:Array Goroutine} {d:Nat} {sl:Option (Nat × Nat)} {t:Trace} {q:Nat->Nat}
theorem Rt{x:Value}{kk:List Item}(h:RT (PB prog false) Fin b cs ⟨#[x]++Array.replicate 6 undef,[]⟩ (.code ah.Al.zq::kk) gh):x=.nilIface\/∃ n,x=.iface 42 (.int .i64 n):=by
 obtain⟨dd,hu,hd⟩:=J8
 obtain⟨a,ha⟩:∃ a:Act,a=⟨#[x]++Array.replicate 6 undef,[]⟩:=⟨_,rfl⟩
 have sz:a.tmps.size=7:=by rw[ha];simp
 have s0:a.eval (.tmp 0)=x:=by rw[ha];kernel_rfl
 rw[<-ha] at h
 clear ha
 have h1:=h.seq.region.assign (d:=1) rfl
 rcases h1.assert (d:=3) hu hd Cw rfl with ⟨hx,_⟩|⟨T,v,hx,h2⟩
 .rw[aA _ (by decide),s0] at hx
  exact .inl hx
 .rw[aA _ (by decide),s0] at hx
  right
  rcases h2 with ⟨hT,h3⟩|⟨hT,h3⟩
  .skip
   have h4:=h3.extract (d:=4) (xs:=#[v,.bool true]) (v:=v) rfl (aI 3 _ (by simp only[aM];omega)) rfl
   have h5:=h4.extract (d:=5) (xs:=#[v,.bool true]) (v:=.bool true) rfl (by rw[aA _ (by decide)];exact aI 3 _ (by simp only[aM];omega)) rfl
   have e0:Act.eval ((((a.put (some 1) (a.eval (.const (.int .i64 0)))).put (some 3) (.tuple #[v,.bool true])).put (some 4) v).put (some 5) (.bool true)) (.tmp 0)=Value.iface T v:=(aA _ (show (0:Nat)≠5 by decide)).trans ((aA _ (show (0:Nat)≠4 by decide)).trans ((aA _ (show (0:Nat)≠3 by decide)).trans ((aA _ (show (0:Nat)≠1 by decide)).trans (s0.trans hx))))
   have h6:=h5.Cy (d:=2) rfl e0
   have h7:=(h6.over.seq.cond (t:=false) (aI 2 _ (by simp only[aM];omega))).skip.seq
   have q5:Act.eval (((((a.put (some 1) (a.eval (.const (.int .i64 0)))).put (some 3) (.tuple #[v,.bool true])).put (some 4) v).put (some 5) (.bool true)).put (some 2) (.bool false)) (.tmp 5)=Value.bool true:=(aA _ (show (5:Nat)≠2 by decide)).trans (aI 5 _ (by simp only[aM];omega))
   have h8:=h7.cond (t:=true) q5
   obtain⟨n,hn,_⟩:=(h8.skip.seq.region).lss (d:=6) (ik:=.i64) (m:=0) rfl rfl
   have hv:v=.int .i64 n:=by
    rw[<-hn]
    exact((aA _ (show (4:Nat)≠2 by decide)).trans ((aA _ (show (4:Nat)≠5 by decide)).trans (aI 4 _ (by simp only[aM];omega)))).symm
   exact⟨n,by rw[hx,hT,hv]⟩
  .skip
   have h4:=h3.extract (d:=4) (xs:=#[(.int .i64 0),.bool false]) (v:=(.int .i64 0)) rfl (aI 3 _ (by simp only[aM];omega)) rfl
   have h5:=h4.extract (d:=5) (xs:=#[(.int .i64 0),.bool false]) (v:=.bool false) rfl (by rw[aA _ (by decide)];exact aI 3 _ (by simp only[aM];omega)) rfl
   have e0:Act.eval ((((a.put (some 1) (a.eval (.const (.int .i64 0)))).put (some 3) (.tuple #[(.int .i64 0),.bool false])).put (some 4) (.int .i64 0)).put (some 5) (.bool false)) (.tmp 0)=Value.iface T v:=(aA _ (show (0:Nat)≠5 by decide)).trans ((aA _ (show (0:Nat)≠4 by decide)).trans ((aA _ (show (0:Nat)≠3 by decide)).trans ((aA _ (show (0:Nat)≠1 by decide)).trans (s0.trans hx))))
   have h6:=h5.Cy (d:=2) rfl e0
   have h7:=(h6.over.seq.cond (t:=false) (aI 2 _ (by simp only[aM];omega))).skip.seq
   have q5:Act.eval (((((a.put (some 1) (a.eval (.const (.int .i64 0)))).put (some 3) (.tuple #[(.int .i64 0),.bool false])).put (some 4) (.int .i64 0)).put (some 5) (.bool false)).put (some 2) (.bool false)) (.tmp 5)=Value.bool false:=(aA _ (show (5:Nat)≠2 by decide)).trans (aI 5 _ (by simp only[aM];omega))
   have h8:=h7.cond (t:=false) q5
   refine(h8.stuck (ik:=.i64) (n:=0) ?_).elim
   exact(aA _ (show (1:Nat)≠2 by decide)).trans ((aA _ (show (1:Nat)≠5 by decide)).trans ((aA _ (show (1:Nat)≠4 by decide)).trans ((aA _ (show (1:Nat)≠3 by decide)).trans (aI 1 _ (by omega)))))
theorem yu(hz:zeros (PB prog false) (fns.own (PB prog false)))(hp:fU (PB prog false) (fns.own (PB prog false)))(hfo:fns.ok 33=true){a:Array Value}{x:Value}(hcs:cs=k++[aQ])(hst:Start (PB prog false) (fns.own (PB prog false)) Z (dom E) a gh)
 (hc:∀ t d,Calls (PB prog false) 33 a (eP gh t d) λe w'=>e=.returned x/\w'=eP gh t d)
 (hR:Runs (PB prog false) Fin (G (Frame.enter (PB prog false) 33 a .normal) (c::cs)) gh) :
 ∃ dW,Relation.TransGen (Bf (PB prog false)) (G (c.finish x) cs,dW) (G (Frame.enter (PB prog false) 33 a .normal) (c::cs),gh)/\Runs (PB prog false) Fin (G (c.finish x) cs) dW/\dW.heap=gh.heap:=by
 obtain⟨v,dW,t1,r1,u,⟨rfl,hu⟩,he⟩:=oJ (f:=33) (Q:=λv u=>v=x/\u.heap=gh.heap) hz vC hp hcs hfo hst (λt d=>(hc t d).mono (λe w' ⟨h1,h2⟩=>⟨_,h1,rfl,by rw[h2];rfl⟩)) hR
 exact⟨dW,t1,r1,by rw[<-he];exact hu⟩
def ETy(o0:Option Obj):Prop:=∃ cs T fr,o0=some (.cells cs T fr)/\cs[0]?=some (.iface 211 (.agg #[.pointer (some ⟨1,27,none⟩)]))
theorem VO{o0:Option Obj}(hO:ETy o0)(hj:fns.jf 33=true)(hre:fns.re (PB prog false)=prog)(hz:zeros (PB prog false) (fns.own (PB prog false)))(hp:fU (PB prog false) (fns.own (PB prog false)))(hfo:fns.ok 33=true):JC (PB prog false) fns Z 0 o0 33:=by
 unfold JC
 rw[hre]
 intro Fin E gh w a a' c c' cs cs' S gs d sl t q ha har hgs hw hk hR hB hS hSb hK
 obtain⟨k,hcs⟩:=hk
 have hsz:=tT EU hj har
 obtain⟨x,rfl⟩:=J9 hsz
 obtain⟨x',rfl⟩:=J9 (ha.1▸hsz)
 have hx:VR fns E x x':=ha.2 0 (by simp) (by simp)
 have hst:=nL ha hgs hw
 have hne:c::cs≠[aQ]:=by rw[hcs];intro h;have:=congrArg List.length h;simp at this
 have hRT:RT (PB prog false) Fin Rs (c::cs) ⟨#[x]++Array.replicate 6 undef,[]⟩ [.code ah.Al.zq] gh:=⟨hne,rfl,by rw[<-Iq];exact hR⟩
 rcases Rt hRT with rfl|⟨n,rfl⟩
 .rw[dG] at hx
  subst hx
  obtain⟨dW,t1,r1,hh⟩:=yu hz hp hfo hcs hst (λt d=>ah.zQ (eP gh t d)) hR
  obtain⟨N,gs',d',sl',t',q',r,_,hB'⟩:=ET (S:=S) (B0:=w.heap.size) (w:=w) (c:=c') (cs:=cs') gs d sl t q hB
  exact⟨_,dW,t1,r1,N,gs',_,sl',t',q',S,E,_,r,⟨hB'.pq,hB'.lv,hB'.past,λb hb=>mO hB'.past hb⟩,aH rfl,hw.ext (λa b _=>by rw[hh]) (λa b _=>rfl) (by rw[hh];exact Nat.le_refl _) (Nat.le_refl _),λ_ _ x=>x,hS,hSb,⟨λ_ _ _ _=>rfl,Nat.le_refl _,λ_ _ x=>.inl x,λ_ x=>.inl x,rfl,rfl,rfl⟩⟩
 .obtain⟨u,rfl,hu,_⟩:=bf.1 hx
  rw[dB] at hu
  subst hu
  obtain⟨dW,t1,r1,hh⟩:=yu hz hp hfo hcs hst (λt d=>ah.uj n (eP gh t d)) hR
  obtain⟨cells,T,fr,ho,hc0⟩:=hO
  have hE:w.cell? ⟨0,0,none⟩=some (.iface 211 (.agg #[.pointer (some ⟨1,27,none⟩)])):=by
   have:=hK.pq
   rw[ho] at this
   simp[World.cell?,this,hc0]
  obtain⟨w1,ton,hbs⟩:=VN (S:=S) (B0:=w.heap.size) n hE hSb hK.nS (c:=c') (cs:=cs')
  obtain⟨N,gs',d',sl',t',q',r,_,hB'⟩:=hbs gs d sl t q hB
  have hsz1:w.heap.size<=w1.heap.size:=by have:=ton.size;omega
  exact⟨_,dW,t1,r1,N,gs',_,sl',t',q',S,E,_,r,⟨hB'.pq,hB'.lv,hB'.past,λb hb=>mO hB'.past hb⟩,aH rfl,hw.ext (λa b _=>by rw[hh]) (λa b x=>ton.old b (hw.lt x).2) (by rw[hh];exact Nat.le_refl _) hsz1,λ_ _ x=>x,hS,λb hb=>Nat.lt_of_lt_of_le (hSb b hb) hsz1,⟨λb hb _ _=>ton.old b hb,hsz1,λ_ _ x=>.inl x,λ_ x=>.inl x,ton.tape,ton.os,ton.output⟩⟩
end
end Go.Proofs.YthbndfpeffcigaaGreatDoor
namespace Go.Proofs.YthbndfpeffcigaaGreatDoor
open Go
variable {fs:Array Field} {P:Program} {i:TypeInfo}
def Ak(P:Program)(l:List Field):Prop:=l.Pairwise λf g=>f.offset+P.cellsOf f.type<=g.offset/\f.byteOffset+P.bytesOf f.type<=g.byteOffset
def Ru(P:Program):Prop:=∀ t fs,P.underlying t=some (.struct fs)->Ak P fs.toList
theorem Rv{α:Type}{R:α->α->Prop}:∀ {l:List α},l.Pairwise R->∀ {f g:α},f∈l->g∈l->f=g\/R f g\/R g f
 | [],_,_,_,hf,_=>by cases hf
 |a::l,h,f,g,hf,hg=>by
  rw[List.pairwise_cons] at h
  rcases List.mem_cons.1 hf with e1|h1<;>rcases List.mem_cons.1 hg with e2|h2
  .exact .inl (e1.trans e2.symm)
  .exact .inr (.inl (e1▸h.1 _ h2))
  .exact .inr (.inr (e2▸h.1 _ h1))
  .exact Rv h.2 h1 h2
theorem J_{s w q q' r x b y:Nat}(hr:r<s)(h:q*w+x<=b)(hq:q'=b/w)(hw:0<w)(hi:x<=b%w->r<=y):q*s+r<=q'*s+y:=by
 have hb:q'*w+b%w=b:=by rw[hq,Nat.mul_comm];exact Nat.div_add_mod b w
 have hl:=Nat.mod_lt b hw
 rcases Nat.lt_trichotomy q' q with h1|h1|h1
 .have:(q'+1)*w<=q*w:=Nat.mul_le_mul_right w h1
  rw[Nat.add_mul] at this
  omega
 .subst h1
  have:=hi (by omega)
  omega
 .have:(q+1)*s<=q'*s:=Nat.mul_le_mul_right s h1
  rw[Nat.add_mul] at this
  omega
theorem Ir{P:Program}(hP:Ru P):∀ (d:Nat) (t:TypeId) (r b here c:Nat),byteOfCell P d t r=some here->cellOfByte P d t b=some c->here<=b->r<=c
 |0,_,_,_,_,_,h,_,_=>by simp[byteOfCell] at h
 |d+1,t,r,b,here,c,h1,h2,hb=>by
  unfold byteOfCell at h1
  unfold cellOfByte at h2
  cases hu:P.underlying t with
  |none =>
   simp only[hu] at h1
   split at h1
   .omega
   .cases h1
  |some dd =>
   cases dd with
   |struct fs =>
    simp only[hu] at h1 h2
    obtain⟨f,hf,kf⟩:=Array.exists_of_findSome?_eq_some h1
    obtain⟨g,hg,kg⟩:=Array.exists_of_findSome?_eq_some h2
    split at kf
    .rename_i cf
     split at kg
     .rename_i cg
      simp only[Bool.and_eq_true,decide_eq_true_eq] at cf cg
      obtain⟨x,hx,rfl⟩:=Option.map_eq_some_iff.1 kf
      obtain⟨y,hy,rfl⟩:=Option.map_eq_some_iff.1 kg
      rcases Rv (hP t fs hu) (Array.mem_toList_iff.2 hf) (Array.mem_toList_iff.2 hg) with rfl|hR|hR
      .have:=Ir hP d f.type _ _ _ _ hx hy (by omega)
       omega
      .omega
      .omega
     .cases kg
    .cases kf
   |array n e =>
    simp only[hu] at h1 h2
    split at h1
    .cases h1
    .split at h2
     .cases h2
     .rename_i c1 c2
      simp only[Bool.or_eq_true,decide_eq_true_eq,not_or] at c2
      obtain⟨x,hx,rfl⟩:=Option.map_eq_some_iff.1 h1
      obtain⟨y,hy,rfl⟩:=Option.map_eq_some_iff.1 h2
      have key:=J_ (Nat.mod_lt r (by omega:0<P.cellsOf e)) hb rfl (by omega) (λh=>Ir hP d e _ _ _ _ hx hy h)
      have:r/P.cellsOf e*P.cellsOf e+r%P.cellsOf e=r:=by rw[Nat.mul_comm];exact Nat.div_add_mod r _
      omega
   |_ =>
    simp only[hu] at h1
    split at h1
    .omega
    .cases h1
theorem Bz(hP:Ru P):Tx P:=by
 intro e k off n o hn h
 unfold cellAtBytes at h
 simp only[bind,Option.bind,Bool.or_eq_true,decide_eq_true_eq] at h
 split at h
 .cases h
 .rename_i c1
  split at h
  .cases h
  .rename_i here hh
   dsimp only at h
   split at h
   .cases h
   .rename_i c2
    obtain⟨y,hy,rfl⟩:=Option.map_eq_some_iff.1 h
    rw[not_or] at c1 c2
    have key:=J_ (q:=off/P.cellsOf e) (x:=here) (Nat.mod_lt off (by omega:0<P.cellsOf e)) (b:=(Int.ofNat (off/P.cellsOf e*P.bytesOf e+here)+n).toNat) (by simp only[Int.ofNat_eq_natCast] at *;omega) rfl (by omega) (λh=>Ir hP _ e _ _ _ _ hh hy h)
    have:off/P.cellsOf e*P.cellsOf e+off%P.cellsOf e=off:=by rw[Nat.mul_comm];exact Nat.div_add_mod off _
    omega
section
variable {info info':TypeId->Option TypeInfo}
theorem mapM_le{α β:Type}{f g:α->Option β}(h:∀ x y,f x=some y->g x=some y):∀ (l:List α) {r:List β},l.mapM f=some r->l.mapM g=some r
 | [],r,e=>by simpa using e
 |a::l,r,e=>by
  simp only[List.mapM_cons,bind,Option.bind_eq_some_iff] at e ⊢
  obtain⟨y,h1,z,h2,h3⟩:=e
  exact⟨y,h _ _ h1,z,mapM_le h l h2,h3⟩
theorem EW{α σ:Type}{f g:α->σ->Option (ForInStep σ)}(h:∀ x s y,f x s=some y->g x s=some y):∀ (l:List α) (s:σ) {r:σ},ForIn.forIn l s f=some r->ForIn.forIn l s g=some r
 | [],s,r,e=>by simpa using e
 |a::l,s,r,e=>by
  simp only[List.forIn_cons,bind,Option.bind_eq_some_iff] at e ⊢
  obtain⟨y,h1,h2⟩:=e
  refine⟨y,h _ _ _ h1,?_⟩
  cases y with
  |done b=>exact h2
  |yield b=>exact EW h l b h2
theorem Iu(h:∀ t i,info t=some i->info' t=some i){ps rs:Array TypeId}{v:Bool}{s:String}(e:Made.funcStr info ps rs v=some s):Made.funcStr info' ps rs v=some s:=by
 unfold Made.funcStr at e ⊢
 simp only[bind,Option.bind_eq_some_iff] at e ⊢
 obtain⟨x,h1,y,h2,h3⟩:=e
 refine⟨x,mapM_le (λa b k=>?_) _ h1,y,mapM_le (λa b k=>?_) _ h2,h3⟩
 .obtain⟨t,j⟩:=a
  simp only[Option.bind_eq_some_iff] at k ⊢
  obtain⟨i,k1,k2⟩:=k
  refine⟨i,h _ _ k1,?_⟩
  by_cases hv:(v&&j+1==ps.size)=true
  .rw[if_pos hv] at k2 ⊢
   obtain⟨d,k3,k4⟩:=Option.bind_eq_some_iff.1 k2
   refine Option.bind_eq_some_iff.2 ⟨d,?_,?_⟩
   .revert k3
    cases i.desc<;>first
     |exact id
     | (intro k3
        obtain⟨a,k5,k6⟩:=Option.map_eq_some_iff.1 k3
        exact Option.map_eq_some_iff.2 ⟨a,h _ _ k5,k6⟩)
   .cases d<;>first
     | (obtain⟨a,k5,k6⟩:=Option.bind_eq_some_iff.1 k4
        exact Option.bind_eq_some_iff.2 ⟨a,h _ _ k5,k6⟩)
     |exact k4
  .rw[if_neg hv] at k2 ⊢
   exact k2
 .simp only[Option.bind_eq_some_iff] at k ⊢
  obtain⟨i,k1,k2⟩:=k
  exact⟨i,h _ _ k1,k2⟩
theorem Mt(h:∀ t i,info t=some i->info' t=some i)(e:Made.reckonStruct info fs=some i):Made.reckonStruct info' fs=some i:=by
 unfold Made.reckonStruct at e ⊢
 simp only[bind,Option.bind_eq_some_iff] at e ⊢
 obtain⟨a,h1,h2⟩:=e
 refine⟨a,?_,h2⟩
 rw[<-Array.forIn_toList] at h1 ⊢
 refine EW (λx s y k=>?_) _ _ h1
 obtain⟨i,k1,k2⟩:=Option.bind_eq_some_iff.1 k
 exact Option.bind_eq_some_iff.2 ⟨i,h _ _ k1,k2⟩
theorem Mv(h:∀ t i,info t=some i->info' t=some i){d:TypeDesc}(e:Made.reckon info d=some i):Made.reckon info' d=some i:=by
 cases d with
 |struct fs=>exact Mt h e
 |func ps rs v =>
  simp only[Made.reckon,bind,Option.bind_eq_some_iff] at e ⊢
  obtain⟨s,h1,h2⟩:=e
  exact⟨s,Iu h h1,h2⟩
 |pointer e' =>
  simp only[Made.reckon,bind,Option.bind_eq_some_iff] at e ⊢
  obtain⟨j,h1,h2⟩:=e
  exact⟨j,h _ _ h1,h2⟩
 |slice e' =>
  simp only[Made.reckon,bind,Option.bind_eq_some_iff] at e ⊢
  obtain⟨j,h1,h2⟩:=e
  exact⟨j,h _ _ h1,h2⟩
 |array n e' =>
  simp only[Made.reckon,bind,Option.bind_eq_some_iff] at e ⊢
  obtain⟨j,h1,h2⟩:=e
  exact⟨j,h _ _ h1,h2⟩
 |chan dir e' =>
  simp only[Made.reckon,bind,Option.bind_eq_some_iff] at e ⊢
  obtain⟨j,h1,h2⟩:=e
  exact⟨j,h _ _ h1,h2⟩
 |map k e' =>
  simp only[Made.reckon,bind,Option.bind_eq_some_iff] at e ⊢
  obtain⟨j,h1,s,h2,j',h3,h4⟩:=e
  exact⟨j,h _ _ h1,s,h2,j',h _ _ h3,h4⟩
 |_=>exact e
end
theorem Ka(T:Tables):∀ (f:Nat) (t:TypeId) (i:TypeInfo),Made.infoAt T f t=some i->Made.infoAt T (f+1) t=some i
 |0,_,_,h=>by cases h
 |f+1,t,i,h=>by
  unfold Made.infoAt at h ⊢
  by_cases ht:t<T.types.size
  .rw[if_pos ht] at h ⊢;exact h
  .rw[if_neg ht] at h ⊢
   obtain⟨d,h1,h2⟩:=Option.bind_eq_some_iff.1 h
   exact Option.bind_eq_some_iff.2 ⟨d,h1,Mv (Ka T f) h2⟩
theorem VP{T:Tables}{t:TypeId}(h:Made.infoAt T 99 t=some i):T.info? t=some i:=by
 have h':=Ka T 99 t i h
 unfold Tables.info?
 by_cases ht:t<T.types.size
 .rw[if_pos ht]
  unfold Made.infoAt at h
  rw[if_pos ht] at h
  exact h
 .rw[if_neg ht]
  exact h'
theorem le_roundUp(n a:Nat):n<=Made.roundUp n a:=by
 unfold Made.roundUp
 split
 .exact Nat.le_refl _
 .have h1:=Nat.div_add_mod (n+a-1) a
  have h2:=Nat.mod_lt (n+a-1) (by omega:0<a)
  rw[Nat.mul_comm] at h1
  omega
theorem Am{α σ:Type}{f:α->σ->Option (ForInStep σ)}{I:σ->Prop}(hf:∀ x s y,I s->f x s=some y->∃ s',y=.yield s'/\I s'):∀ (l:List α) (s:σ) {r:σ},I s->ForIn.forIn l s f=some r->I r
 | [],s,r,hs,e=>by
   simp only[List.forIn_nil,pure,Option.some.injEq] at e
   rwa [<-e]
 |a::l,s,r,hs,e=>by
  simp only[List.forIn_cons,bind,Option.bind_eq_some_iff] at e
  obtain⟨y,h1,h2⟩:=e
  obtain⟨s',rfl,h3⟩:=hf _ _ _ hs h1
  exact Am hf l s' h3 h2
def Mw(P:Program)(out:Array Field)(cells size:Nat):Prop:=(∀ f∈out.toList,f.offset+P.cellsOf f.type<=cells/\f.byteOffset+P.bytesOf f.type<=size)/\Ak P out.toList
theorem Mw.push{out:Array Field}{cells size at_:Nat}{x y:Field}(h:Mw P out cells size)(h1:size<=at_)(hy:y.type=x.type/\y.offset=cells/\y.byteOffset=at_):Mw P (out.push y) (cells+P.cellsOf x.type) (at_+P.bytesOf x.type):=by
 obtain⟨e1,e2,e3⟩:=hy
 refine⟨λf hf=>?_,?_⟩
 .rw[Array.toList_push,List.mem_append,List.mem_singleton] at hf
  rcases hf with hf|rfl
  .have:=h.1 f hf
   omega
  .rw[e1,e2,e3]
   exact⟨Nat.le_refl _,Nat.le_refl _⟩
 .unfold Ak
  rw[Array.toList_push,List.pairwise_append]
  refine⟨h.2,List.pairwise_singleton _ _,λf hf g hg=>?_⟩
  rw[List.mem_singleton] at hg
  rw[hg,e2,e3]
  have:=h.1 f hf
  omega
theorem EX{info:TypeId->Option TypeInfo}(hI:∀ t i,info t=some i->P.info? t=some i)(e:Made.reckonStruct info fs=some i):∃ out,i.desc=.struct out/\Ak P out.toList:=by
 unfold Made.reckonStruct at e
 simp only[bind,Option.bind_eq_some_iff] at e
 obtain⟨a,h1,h2⟩:=e
 rw[<-Array.forIn_toList] at h1
 have key:Mw P a.1 a.2.1 a.2.2.1:=by
  refine Am (I:=λs:Array Field × Nat × Nat × Nat × Nat × Bool × Bool × Option (Array Value) × String=>Mw P s.1 s.2.1 s.2.2.1) (λx s y hs k=>?_) _ _ (show Mw P #[] 0 0 from⟨λf hf=>by simp at hf,List.Pairwise.nil⟩) h1
  obtain⟨j,k1,k2⟩:=Option.bind_eq_some_iff.1 k
  have hj:=hI _ _ k1
  have c1:P.cellsOf x.type=j.size:=by unfold Program.cellsOf;rw[hj];rfl
  have c2:P.bytesOf x.type=j.bytes:=by unfold Program.bytesOf;rw[hj];rfl
  have hp:=λy hy=>hs.push (x:=x) (y:=y) (le_roundUp s.2.2.1 j.align) hy
  rw[c1,c2] at hp
  clear k h1 h2
  simp only[Option.bind_none,pure,Option.bind_some] at k2
  repeat' split at k2
  all_goals first
   | (cases k2;done)
   | (cases k2;exact⟨_,rfl,hp _ ⟨rfl,rfl,rfl⟩⟩)
   | (obtain⟨tag,_,k3⟩:=Option.bind_eq_some_iff.1 k2
      cases k3
      exact⟨_,rfl,hp _ ⟨rfl,rfl,rfl⟩⟩)
 refine⟨a.1,?_,key.2⟩
 split at h2<;>(cases h2;rfl)
def Cz(P:Program):List Field->Bool
 | []=>true
 |f::l=>l.all (λg=>decide (f.offset+P.cellsOf f.type<=g.offset)&&decide (f.byteOffset+P.bytesOf f.type<=g.byteOffset))&&Cz P l
theorem EY{P:Program}:∀ {l:List Field},Cz P l=true->Ak P l
 | [],_=>List.Pairwise.nil
 |f::l,h=>by
  simp only[Cz,Bool.and_eq_true,List.all_eq_true,decide_eq_true_eq] at h
  exact List.Pairwise.cons (λg hg=>h.1 g hg) (EY h.2)
def Rw(P:Program):Bool:=P.types.toList.all λi=>match i.desc with
 | .struct fs=>Cz P fs.toList
 |_=>true
theorem Ao(hT:Rw P=true){t:TypeId}(h:P.info? t=some i)(hd:i.desc=.struct fs):Ak P fs.toList:=by
 by_cases ht:t<P.types.size
 .have h':=h
  unfold Tables.info? at h'
  rw[if_pos ht] at h'
  have:=List.all_eq_true.1 hT i (Array.mem_toList_iff.2 (Array.mem_of_getElem? h'))
  rw[hd] at this
  exact EY this
 .unfold Tables.info? at h
  rw[if_neg ht] at h
  unfold Made.depth Made.infoAt at h
  rw[if_neg ht] at h
  obtain⟨d,_,h2⟩:=Option.bind_eq_some_iff.1 h
  cases d with
  |struct gs =>
   obtain⟨out,e1,e2⟩:=EX (P:=P) (λt i hi=>VP hi) h2
   rw[hd] at e1
   cases e1
   exact e2
  |pointer e' =>
   simp only[Made.reckon,bind,Option.bind_eq_some_iff] at h2
   obtain⟨j,_,h2⟩:=h2
   split at h2
   .cases h2
   .split at h2
    .cases h2
    .obtain⟨s,_,h3⟩:=Option.bind_eq_some_iff.1 h2
     cases h3;cases hd
   .obtain⟨s,_,h3⟩:=Option.bind_eq_some_iff.1 h2
    cases h3;cases hd
  |slice e' =>
   simp only[Made.reckon,bind,Option.bind_eq_some_iff] at h2
   obtain⟨j,_,s,_,h3⟩:=h2
   cases h3;cases hd
  |array n e' =>
   simp only[Made.reckon,bind,Option.bind_eq_some_iff] at h2
   obtain⟨j,_,s,_,h3⟩:=h2
   cases h3;cases hd
  |chan n e' =>
   simp only[Made.reckon,bind,Option.bind_eq_some_iff] at h2
   obtain⟨j,_,s,_,h3⟩:=h2
   cases h3;cases hd
  |map k e' =>
   simp only[Made.reckon,bind,Option.bind_eq_some_iff] at h2
   obtain⟨j,_,s,_,j',_,s',_,h3⟩:=h2
   cases h3;cases hd
  |func ps rs v =>
   simp only[Made.reckon,bind,Option.bind_eq_some_iff] at h2
   obtain⟨s,_,h3⟩:=h2
   cases h3;cases hd
  |_=>cases h2
theorem VQ(hT:Rw P=true):Ru P:=by
 intro t fs h
 unfold Program.underlying at h
 split at h
 .rename_i n u _
  obtain⟨j,h1,h2⟩:=Option.map_eq_some_iff.1 h
  exact Ao hT h1 h2
 .rename_i i _ hi
  exact Ao hT hi (Option.some.inj h)
 .cases h

/- Part of the proof. -/
import Derived.Test.YthbndfpeffcigaaGreatDoorZ16
import Derived.Shelf.Slices.SearchI
import Derived.Shelf.Sort.Plain
import Derived.Test.YthbndfpeffcigaaGreatDoorZ17
open Go.Proofs.Tryz (prog)
open Go.Proofs.ah.Al (PB)
set_option maxHeartbeats 1600000
set_option linter.unusedVariables false
namespace Go.Proofs.ay
open ah ak aj Go.RowKit
theorem wJ(v:Value)(w:World):(Instr.typeAssert (.iface 42 v) 27 42 true).run (PB prog false) w=.ok (.tuple #[v,.bool true]) w:=by kernel_rfl
theorem BF(w:World):(Instr.typeAssert .nilIface 27 42 true).run (PB prog false) w=.ok (.tuple #[.int .i64 0,.bool false]) w:=by kernel_rfl
theorem Jp(m:Int)(W:World):Calls (PB prog false) 67 #[.nilIface,.iface 42 (.int .i64 m)] W λe w'=>e=.returned (.bool false)/\w'=W:=by
 have h1:=BF
 have h2:=wJ (.int .i64 m)
 go_enter Al.func67,Al.ntmps67
 unfold Al.KA
 go_wp2
 go_ret
 exact⟨rfl,rfl⟩
theorem zW(n m:Int)(W:World):Calls (PB prog false) 67 #[.iface 42 (.int .i64 n),.iface 42 (.int .i64 m)] W λe w'=>e=.returned (.bool (n==m))/\w'=W:=by
 have h1:=wJ (.int .i64 n)
 have h2:=wJ (.int .i64 m)
 go_enter Al.func67,Al.ntmps67
 unfold Al.KA
 go_wp2
 go_ret
 exact⟨rfl,rfl⟩
theorem aco:abW:=λn m hm W=>by
 have hB:Below W.heap.size W W:=Below.refl _ _
 by_cases h0:n=0
 .subst h0
  rw[lq,decide_eq_false (λe=>hm e.symm)]
  exact(Jp m W).mono λe w' h=>⟨h.1,by rw[h.2];exact hB⟩
 .rw[jo h0]
  refine(zW n m W).mono λe w' h=>⟨?_,by rw[h.2];exact hB⟩
  rw[h.1]
  congr 2
  rw[Bool.eq_iff_iff]
  simp
  omega
end Go.Proofs.ay
namespace Go.Proofs.ay
open ak aj Go.RowKit aF aL ah
theorem Tn(p:List Nat):(stP p==2&&(yw p==1||yw p==2))=true↔Db p:=by
 unfold Db
 rw[<-zo]
 simp only[Bool.and_eq_true,Bool.or_eq_true,beq_iff_eq]
 unfold stP yw qg
 cases h1:iB p<;>cases h2:pR p<;>simp
theorem wL{p:List Nat}(h:Db p):yx p=bZ p/\Az p=bR p:=by
 have:=(zo p).2 h.1
 unfold yx Az
 rw[this]
 exact⟨rfl,rfl⟩
theorem BG{L:List Pg}{i:Nat}:i∈flt L L.length↔i<L.length/\Db (gP L i).p:=by
 unfold flt
 rw[List.mem_filter,List.mem_range]
 refine and_congr_right λ_=>?_
 exact Tn _
theorem XZ{N:List ah.Fd}{i:Nat}(h:i<N.length):gF N i∈N:=by
 unfold gF
 rw[List.getElem?_eq_getElem h]
 exact List.getElem_mem h
theorem acp(L:List Pg):NF L.length (λi=>(gP L i).p) (newF L).length (λi=>(gF (newF L) i).lb) (λi=>(gF (newF L) i).pg) (λi=>(gF (newF L) i).sq):=by
 have hI:Wu (mU L) (flt L L.length) (newF L):=XW _ _
 refine⟨λi j hij hj=>?_,λi hi=>?_,λp hp hc=>?_⟩
 .have:=List.pairwise_iff_getElem.1 hI.rise i j (by omega) hj hij
  unfold gF
  rw[List.getElem?_eq_getElem hj,List.getElem?_eq_getElem (show i<(newF L).length by omega)]
  exact this
 .obtain⟨p,hp,e,hb⟩:=hI.best _ (XZ hi)
  obtain⟨p1,p2⟩:=BG.1 hp
  obtain⟨t1,t2⟩:=wL p2
  have e1:(gF (newF L) i).pg=p:=by rw[e];rfl
  have e2:(gF (newF L) i).lb=bZ (gP L p).p:=by rw[e];exact t1
  have e3:(gF (newF L) i).sq=bR (gP L p).p:=by rw[e];exact t2
  rw[e1,e2,e3]
  refine⟨p1,p2,rfl,rfl,λq hq hc hl=>?_⟩
  obtain⟨s1,s2⟩:=wL hc
  have hlt:=hb q (BG.2 ⟨hq,hc⟩) (by rw[e2];show yx (gP L q).p=_;rw[s1];exact hl)
  unfold Bq at hlt
  have f1:(mU L q).lb=(mU L p).lb:=by show yx _=yx _;rw[s1,t1];exact hl
  have f2:(mU L q).sq=bR (gP L q).p:=s2
  have f3:(mU L p).sq=bR (gP L p).p:=t2
  rw[f2,f3] at hlt
  rcases Nat.lt_or_ge (bR (gP L p).p) (bR (gP L q).p) with h|h
  .exact(hlt (Or.inr ⟨f1,Or.inl h⟩)).elim
  .exact h
 .obtain⟨e,he,hl⟩:=hI.all p (BG.2 ⟨hp,hc⟩)
  obtain⟨i,hi,rfl⟩:=List.mem_iff_getElem.1 he
  refine⟨i,hi,?_⟩
  unfold gF
  rw[List.getElem?_eq_getElem hi]
  show (newF L)[i].lb=_
  rw[hl]
  exact(wL hc).1
theorem Tp(L:List Pg):(newF L).length<=L.length:=by
 unfold newF yH CG
 rw[List.length_map]
 refine Nat.le_trans (List.length_filter_le _ _) ?_
 rw[List.length_range,List.length_map]
 have:=(En (mU L) (flt L L.length)).length_eq
 rw[this]
 exact Bt L L.length
theorem X0:jc:=λpa pc L w hl hp=>(GA pa pc L 8 w (by decide) (by decide) hl hp).mono λe w' ⟨a,cap,h1,h2,h3⟩=>by
 refine⟨a,cap,(newF L).length,_,_,_,λi=>(gF (newF L) i).kd,h1,?_,acp L,Tp L,h3⟩
 rcases h2.at with e|⟨g,off,rfl,hc⟩
 .exact Or.inl (by rw[e];rfl)
 .exact Or.inr ⟨g,off,rfl,λi hi=>hc i hi⟩
end Go.Proofs.ay
namespace Go.Proofs.ay
open ah Go.Shelf
def Lu:Go.Shelf.Ren:=⟨fun|25=>253|31=>260|32=>261|37=>136|n=>n,fun|22=>112|3=>3|4=>4|40=>124|0=>0|n=>n,fun|n=>n⟩
theorem acr:Go.Proofs.Lays2.n25 (PB prog false) Lu:={
 mixed:=by kernel_rfl
 f25:=Al.func253.trans (congrArg some (by kernel_rfl))
 f31:=Al.func260.trans (congrArg some (by kernel_rfl))
 f32:=Al.func261.trans (congrArg some (by kernel_rfl))
 f37:=Al.func136.trans (congrArg some (by kernel_rfl))
 t0:=((Al.und 0).trans Tryz.underlying0)
 a0:=λw=>(Al.agg 0 w).trans (Tryz.isAgg0 w)
 z0:=λw=>(Al.iX 0 w).trans (Tryz.sizeOf0 w)
 v0:=λw=>(Al.jd 0 w).trans (Tryz.zeroValue0 w)
 t3:=((Al.und 3).trans Tryz.underlying3)
 a3:=λw=>(Al.agg 3 w).trans (Tryz.isAgg3 w)
 z3:=λw=>(Al.iX 3 w).trans (Tryz.sizeOf3 w)
 v3:=λw=>(Al.jd 3 w).trans (Tryz.zeroValue3 w)
 t4:=((Al.und 4).trans Tryz.underlying4)
 a4:=λw=>(Al.agg 4 w).trans (Tryz.isAgg4 w)
 z4:=λw=>(Al.iX 4 w).trans (Tryz.sizeOf4 w)
 v4:=λw=>(Al.jd 4 w).trans (Tryz.zeroValue4 w)
 t22:=((Al.und 112).trans Tryz.underlying112)
 a22:=λw=>(Al.agg 112 w).trans (Tryz.isAgg112 w)
 z22:=λw=>(Al.iX 112 w).trans (Tryz.sizeOf112 w)
 v22:=λw=>(Al.jd 112 w).trans (Tryz.zeroValue112 w)
 t40:=((Al.und 124).trans Tryz.underlying124)
 a40:=λw=>(Al.agg 124 w).trans (Tryz.isAgg124 w)
 z40:=λw=>(Al.iX 124 w).trans (Tryz.sizeOf124 w)
 v40:=λw=>(Al.jd 124 w).trans (Tryz.zeroValue124 w) }
def Lv:Go.Shelf.Ren:=⟨fun|189=>252|125=>135|257=>259|128=>172|129=>173|294=>264|295=>265|296=>266|297=>267|298=>268|299=>269|216=>260|300=>270|301=>271|328=>273|329=>190|330=>191|331=>274|332=>275|215=>136|343=>284|n=>n,fun|28=>112|3=>3|46=>124|0=>0|51=>264|53=>244|4=>4|183=>301|182=>300|131=>305|5=>5|9=>9|218=>329|222=>108|228=>335|229=>254|n=>n,fun|n=>n⟩
theorem acs:Go.Proofs.Lays.n189 (PB prog false) Lv:={
 mixed:=by kernel_rfl
 f125:=Al.func135.trans (congrArg some (by kernel_rfl))
 f128:=Al.func172.trans (congrArg some (by kernel_rfl))
 f129:=Al.func173.trans (congrArg some (by kernel_rfl))
 f189:=Al.func252.trans (congrArg some (by kernel_rfl))
 f215:=Al.func136.trans (congrArg some (by kernel_rfl))
 f216:=Al.func260.trans (congrArg some (by kernel_rfl))
 f257:=Al.func259.trans (congrArg some (by kernel_rfl))
 f294:=Al.func264.trans (congrArg some (by kernel_rfl))
 f295:=Al.func265.trans (congrArg some (by kernel_rfl))
 f296:=Al.func266.trans (congrArg some (by kernel_rfl))
 f297:=Al.func267.trans (congrArg some (by kernel_rfl))
 f298:=Al.func268.trans (congrArg some (by kernel_rfl))
 f299:=Al.func269.trans (congrArg some (by kernel_rfl))
 f300:=Al.func270.trans (congrArg some (by kernel_rfl))
 f301:=Al.func271.trans (congrArg some (by kernel_rfl))
 f328:=Al.func273.trans (congrArg some (by kernel_rfl))
 f329:=Al.func190.trans (congrArg some (by kernel_rfl))
 f330:=Al.func191.trans (congrArg some (by kernel_rfl))
 f331:=Al.func274.trans (congrArg some (by kernel_rfl))
 f332:=Al.func275.trans (congrArg some (by kernel_rfl))
 f343:=Al.func284.trans (congrArg some (by kernel_rfl))
 t0:=((Al.und 0).trans Tryz.underlying0)
 a0:=λw=>(Al.agg 0 w).trans (Tryz.isAgg0 w)
 z0:=λw=>(Al.iX 0 w).trans (Tryz.sizeOf0 w)
 v0:=λw=>(Al.jd 0 w).trans (Tryz.zeroValue0 w)
 t3:=((Al.und 3).trans Tryz.underlying3)
 a3:=λw=>(Al.agg 3 w).trans (Tryz.isAgg3 w)
 z3:=λw=>(Al.iX 3 w).trans (Tryz.sizeOf3 w)
 v3:=λw=>(Al.jd 3 w).trans (Tryz.zeroValue3 w)
 t4:=((Al.und 4).trans Tryz.underlying4)
 a4:=λw=>(Al.agg 4 w).trans (Tryz.isAgg4 w)
 z4:=λw=>(Al.iX 4 w).trans (Tryz.sizeOf4 w)
 v4:=λw=>(Al.jd 4 w).trans (Tryz.zeroValue4 w)
 t5:=((Al.und 5).trans Tryz.underlying5)
 a5:=λw=>(Al.agg 5 w).trans (Tryz.isAgg5 w)
 z5:=λw=>(Al.iX 5 w).trans (Tryz.sizeOf5 w)
 v5:=λw=>(Al.jd 5 w).trans (Tryz.zeroValue5 w)
 t9:=((Al.und 9).trans Tryz.underlying9)
 a9:=λw=>(Al.agg 9 w).trans (Tryz.isAgg9 w)
 z9:=λw=>(Al.iX 9 w).trans (Tryz.sizeOf9 w)
 v9:=λw=>(Al.jd 9 w).trans (Tryz.zeroValue9 w)
 t28:=((Al.und 112).trans Tryz.underlying112)
 a28:=λw=>(Al.agg 112 w).trans (Tryz.isAgg112 w)
 z28:=λw=>(Al.iX 112 w).trans (Tryz.sizeOf112 w)
 v28:=λw=>(Al.jd 112 w).trans (Tryz.zeroValue112 w)
 t46:=((Al.und 124).trans Tryz.underlying124)
 a46:=λw=>(Al.agg 124 w).trans (Tryz.isAgg124 w)
 z46:=λw=>(Al.iX 124 w).trans (Tryz.sizeOf124 w)
 v46:=λw=>(Al.jd 124 w).trans (Tryz.zeroValue124 w)
 t51:=((Al.und 264).trans Tryz.underlying264)
 a51:=λw=>(Al.agg 264 w).trans (Tryz.isAgg264 w)
 z51:=λw=>(Al.iX 264 w).trans (Tryz.sizeOf264 w)
 v51:=λw=>(Al.jd 264 w).trans (Tryz.zeroValue264 w)
 t53:=((Al.und 244).trans Tryz.underlying244)
 a53:=λw=>(Al.agg 244 w).trans (Tryz.isAgg244 w)
 z53:=λw=>(Al.iX 244 w).trans (Tryz.sizeOf244 w)
 v53:=λw=>(Al.jd 244 w).trans (Tryz.zeroValue244 w)
 t131:=((Al.und 305).trans Tryz.underlying305)
 a131:=λw=>(Al.agg 305 w).trans (Tryz.isAgg305 w)
 z131:=λw=>(Al.iX 305 w).trans (Tryz.sizeOf305 w)
 v131:=λw=>(Al.jd 305 w).trans (Tryz.zeroValue305 w)
 t182:=((Al.und 300).trans Tryz.underlying300)
 a182:=λw=>(Al.agg 300 w).trans (Tryz.isAgg300 w)
 z182:=λw=>(Al.iX 300 w).trans (Tryz.sizeOf300 w)
 v182:=λw=>(Al.jd 300 w).trans (Tryz.zeroValue300 w)
 t183:=((Al.und 301).trans Tryz.underlying301)
 a183:=λw=>(Al.agg 301 w).trans (Tryz.isAgg301 w)
 z183:=λw=>(Al.iX 301 w).trans (Tryz.sizeOf301 w)
 v183:=λw=>(Al.jd 301 w).trans (Tryz.zeroValue301 w)
 t218:=((Al.und 329).trans Tryz.underlying329)
 a218:=λw=>(Al.agg 329 w).trans (Tryz.isAgg329 w)
 z218:=λw=>(Al.iX 329 w).trans (Tryz.sizeOf329 w)
 v218:=λw=>(Al.jd 329 w).trans (Tryz.zeroValue329 w)
 t222:=((Al.und 108).trans Tryz.underlying108)
 a222:=λw=>(Al.agg 108 w).trans (Tryz.isAgg108 w)
 z222:=λw=>(Al.iX 108 w).trans (Tryz.sizeOf108 w)
 v222:=λw=>(Al.jd 108 w).trans (Tryz.zeroValue108 w)
 t228:=((Al.und 335).trans Tryz.underlying335)
 a228:=λw=>(Al.agg 335 w).trans (Tryz.isAgg335 w)
 z228:=λw=>(Al.iX 335 w).trans (Tryz.sizeOf335 w)
 v228:=λw=>(Al.jd 335 w).trans (Tryz.zeroValue335 w)
 t229:=((Al.und 254).trans Tryz.underlying254)
 a229:=λw=>(Al.agg 254 w).trans (Tryz.isAgg254 w)
 z229:=λw=>(Al.iX 254 w).trans (Tryz.sizeOf254 w)
 v229:=λw=>(Al.jd 254 w).trans (Tryz.zeroValue254 w) }
end Go.Proofs.ay
namespace Go.Proofs.ay
open ah ak aj Go.RowKit Go.Shelf Go.Sort
def pW(n:Nat)(f:Nat->Int):List Int:=(List.range n).map f
theorem jy(n:Nat)(f:Nat->Int):(pW n f).length=n:=by simp[pW]
theorem Tq{n:Nat}{f:Nat->Int}{i:Nat}(h:i<n):(pW n f)[i]?=some (f i):=by unfold pW;rw[List.getElem?_map,List.getElem?_range h];rfl
theorem Tt:Ol:=λgb n f W h1 h2 hI=>by
 have hH:Holds (Value.int .i64) W gb 0 (pW n f).toArray:=λj hj=>by
  have hj':j<n:=by simpa [pW] using hj
  refine⟨?_,hI.free _⟩
  rw[Nat.zero_add,hI.cell j hj']
  have e:(pW n f).toArray[j]! = f j:=by
   rw[getElem!_pos _ j hj]
   simp[pW]
  rw[e]
 have hS:=Any.slices_Sort_int acs gb 0 n (pW n f) W hH (hI.lt h1) (by rw[jy];omega)
 change Calls (PB prog false) 252 _ _ _ at hS
 rw[jy] at hS
 refine hS.mono ?_
 rintro e w' ⟨rfl,m,os,rfl⟩
 obtain⟨Z,hZ⟩:∃ Z,(pW n f).mergeSort (λx y=>decide (x<=y))=Z:=⟨_,rfl⟩
 have hZl:Z.length=n:=by rw[<-hZ,List.length_mergeSort,jy]
 have hZs:Z.Pairwise (λx y=>x<=y):=by
  have:=List.pairwise_mergeSort (le:=λx y:Int=>decide (x<=y)) (λa b c h1 h2=>by simp at *;omega) (λa b=>by simp;omega) (pW n f)
  rw[hZ] at this
  exact this.imp (λh=>by simpa using h)
 rw[hZ]
 have hlt:=hI.lt h1
 have hsz:∀ (d:Array Int),gb<(putRow (Value.int .i64) (Sort.ahead W m) gb 0 d).heap.size:=λd=>by rw[size_putRow,heap_ahead];exact hlt
 have hh:=holds_putRow (Value.int .i64) (Sort.ahead W m) gb 0 (pW n f).toArray Z.toArray (holds_ahead _ _ _ _ _ _ hH) (by simp[hZl,pW])
 have hblk:∀ k,k<W.heap.size->(grow (putRow (Value.int .i64) (Sort.ahead W m) gb 0 Z.toArray) os).heap[k]?=(putRow (Value.int .i64) (Sort.ahead W m) gb 0 Z.toArray).heap[k]?:=λk hk=>heap_grow_old _ _ (by rw[size_putRow,heap_ahead];exact hk)
 refine⟨rfl,λi=>Z[i]?.getD 0,⟨λk hk=>?_,λo=>?_⟩,λi j hij hj=>?_,⟨rfl,rfl,rfl,?_,λk hk hs=>?_⟩⟩
 .have:=(hh k (by simp[hZl];exact hk)).1
  rw[Nat.zero_add] at this
  have ec:(grow (putRow (Value.int .i64) (Sort.ahead W m) gb 0 Z.toArray) os).cell? ⟨gb,k,none⟩=(putRow (Value.int .i64) (Sort.ahead W m) gb 0 Z.toArray).cell? ⟨gb,k,none⟩:=World.cell?_of_block (hblk gb hlt)
  rw[ec,this]
  rw[getElem!_pos _ k (by simp[hZl];exact hk),List.getElem?_eq_getElem (by omega)]
  simp
 .have ec:(grow (putRow (Value.int .i64) (Sort.ahead W m) gb 0 Z.toArray) os).frozen? ⟨gb,o,none⟩=(putRow (Value.int .i64) (Sort.ahead W m) gb 0 Z.toArray).frozen? ⟨gb,o,none⟩:=World.frozen?_of_block (hblk gb hlt)
  rw[ec,frozen?_putRow,frozen?_ahead]
  exact hI.free o
 .rcases Nat.lt_or_eq_of_le hij with h|h
  .have:=List.pairwise_iff_getElem.1 hZs i j (by omega) (by omega) h
   show Z[i]?.getD 0<=Z[j]?.getD 0
   rw[List.getElem?_eq_getElem (show i<Z.length by omega),List.getElem?_eq_getElem (show j<Z.length by omega)]
   exact this
  .rw[h];exact Int.le_refl _
 .rw[size_grow,size_putRow,heap_ahead];omega
 .rw[hblk k hk]
  have hne:¬gb=k:=λe=>hs e.symm
  simp[putRow,mapBlock,Array.getElem?_modify,hne]
theorem Tv:Om:=λgb n f v W h1 h2 hI hs=>by
 have hS:=Any.slices_BinarySearch_int acr gb 0 n n (pW n f) v W (by rw[jy];exact Nat.le_refl _) (by omega) (λj hj=>by
  rw[jy] at hj
  rw[Nat.zero_add,hI.cell j hj,List.getD_eq_getElem?_getD,Tq hj];rfl) (by
  rw[List.take_of_length_le (by rw[jy];exact Nat.le_refl _),List.pairwise_iff_getElem]
  intro i j hi hj hij
  rw[jy] at hj
  simp only[pW,List.getElem_map,List.getElem_range]
  exact hs i j (by omega) hj)
 change Calls (PB prog false) 253 _ _ _ at hS
 refine hS.mono ?_
 rintro e w' ⟨rfl,q,rfl⟩
 refine⟨_,_,?_,rfl,?_⟩
 .refine Nat.le_trans List.countP_le_length ?_
  rw[List.length_take,jy];omega
 .exact below_drewN (Below.refl _ _) q
theorem Lx:D7:=λtb n P u lv rk W h1 h2 h3 h4 hB hb hex=>by
 obtain⟨l,hl⟩:∃ l:List Bl,l=(List.range n).map λk=>(⟨u k,(lv k:Int),(rk k:Int)⟩:Bl):=⟨_,rfl⟩
 have hlen:l.length=n:=by rw[hl];simp
 have hat:∀ i,i<n->gB l i=⟨u i,(lv i:Int),(rk i:Int)⟩:=λi hi=>by
  unfold gB
  rw[hl,List.getElem?_map,List.getElem?_range hi];rfl
 have hBL:aU.BL W (some ⟨tb,0,none⟩) l:=Or.inr ⟨tb,0,rfl,λi hi=>by
  rw[hlen] at hi
  rw[hat i hi]
  refine⟨?_,?_,?_⟩
  .rw[Nat.zero_add];exact hB.b i hi
  .rw[Nat.zero_add];exact hB.x i hi
  .rw[Nat.zero_add];exact hB.r i hi⟩
 have hC:=aU.GU (some ⟨tb,0,none⟩) n l (P:Int) W hBL
 rw[hlen] at hC
 have hf:fZ l (P:Int) false=0:=by
  unfold fZ
  rw[if_neg (by omega),if_neg (by simp;omega),if_pos]
  rw[List.all_eq_true]
  intro b hbm
  obtain⟨i,hi,rfl⟩:=List.mem_iff_getElem.1 hbm
  have e:l[i]=gB l i:=by unfold gB;rw[List.getElem?_eq_getElem hi];rfl
  rw[hlen] at hi
  rw[e,hat i hi]
  have:=hb i hi
  exact(q9 _ _).2 ⟨by show (0:Int)<=lv i;omega,by show (lv i:Int)<=P;omega,by show (0:Int)<=rk i;omega,by show (rk i:Int)<=1000000000;omega⟩
 have hcan:∀ i,can l (P:Int) i↔i<n/\u i=true/\lv i<P:=λi=>by
  unfold can
  rw[hlen]
  refine and_congr_right λhi=>?_
  rw[hat i hi]
  exact and_congr_right λ_=>by show (lv i:Int)<P↔_;omega
 refine hC.mono ?_
 rintro e w' ⟨hp,hbl⟩
 rcases hp with ⟨f,q1,q2,_⟩|⟨_,q2,_⟩|⟨k,_,q2,q3⟩
 .rw[hf] at q1;exact(q2 q1).elim
 .obtain⟨k,k1,k2,k3⟩:=hex
  exact(q2 k ((hcan k).2 ⟨k1,k2,k3⟩)).elim
 .obtain⟨k1,k2,k3⟩:=(hcan k).1 q2.1
  refine⟨k,k1,k2,k3,λj j1 j2 j3=>?_,q3,hbl⟩
  rcases q2.2 j ((hcan j).2 ⟨j1,j2,j3⟩) with e|e
  .rw[e];exact Nat.le_refl _
  .unfold yC at e
   rw[hat k k1,hat j j1] at e
   dsimp only at e
   omega
theorem lib:Lib:=⟨aco,Tt,Tv,Lx,X0⟩

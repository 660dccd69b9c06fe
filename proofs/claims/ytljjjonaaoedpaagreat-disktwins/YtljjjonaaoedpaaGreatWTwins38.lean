/- Part of the proof. -/
import Derived.Test.YtljjjonaaoedpaaGreatZ35
set_option maxHeartbeats 16000000
set_option linter.unusedVariables false
namespace Go.Proofs.aB
open Tryz (prog)
open ah
open ay
open ak
open Go.RowKit aC aG ah
def TS(D:Nat->Prop)(w:World)(ga gb:Gm)(na nb da db:Nat)(Va Vb:Nat->List Nat):Prop :=
 ∃ Ra Rb:Nat->Prop,(∀ b,Ra b\/Rb b)/\(∀ b,D b->Ra b/\Rb b)/\CO ga Ra na w da Va/\CO gb Rb nb w db Vb
section
variable {D D':Nat->Prop} {w w':World} {ga gb:Gm} {na nb da db:Nat} {Va Vb:Nat->List Nat}
theorem TS.swap(h:TS D w ga gb na nb da db Va Vb):TS D w gb ga nb na db da Vb Va:=by
 obtain⟨Ra,Rb,h1,h2,h3,h4⟩:=h
 exact⟨Rb,Ra,λb=>(h1 b).symm,λb e=>(h2 b e).symm,h4,h3⟩
theorem TS.below(h:TS D w ga gb na nb da db Va Vb)(hb:Below w.heap.size w w'):TS D w' ga gb na nb da db Va Vb:=by
 obtain⟨Ra,Rb,h1,h2,h3,h4⟩:=h
 exact⟨Ra,Rb,h1,h2,h3.below hb,h4.below hb⟩
theorem TS.more(h:TS D w ga gb na nb da db Va Vb)(hd:∀ b,D' b->D b\/w.heap.size<=b):TS D' w ga gb na nb da db Va Vb:=by
 obtain⟨Ra,Rb,h1,h2,h3,h4⟩:=h
 refine⟨λb=>Ra b\/w.heap.size<=b,λb=>Rb b\/w.heap.size<=b,λb=>(h1 b).elim (λe=>Or.inl (Or.inl e)) (λe=>Or.inr (Or.inl e)),λb e=>?_,h3.more (λb e=>e),h4.more (λb e=>e)⟩
 rcases hd b e with e1|e1
 ·exact⟨Or.inl (h2 b e1).1,Or.inl (h2 b e1).2⟩
 ·exact⟨Or.inr e1,Or.inr e1⟩
theorem TS.late{ma mb:Nat}(h:TS D w ga gb na nb da db Va Vb)(h1:na<=ma)(h2:nb<=mb):TS D w ga gb ma mb da db Va Vb:=by
 obtain⟨Ra,Rb,k1,k2,k3,k4⟩:=h
 exact⟨Ra,Rb,k1,k2,k3.late h1,k4.late h2⟩
theorem TS.wa(HL:Lib)(h:TS D w ga gb na nb da db Va Vb)(hn:na<=100000000000000)(cZ:Int)(fa:Option Addr)(cap m:Nat)(l:List Nat)(hA:aW l)(hl:bS w fa l)(hfa:∀ b off,fa=some ⟨b,off,none⟩->D b)(hm:l.length=m)(hm2:m<=1000000) :
 Calls (Al.PB prog false) 9 #[.pointer (some ⟨da,0,none⟩),.int .i64 cZ,.slice fa m cap] w λe w'=>e=.returned (bT (fu ga cZ m))/\TS D w' ga gb (na+1) nb da db (if fu ga cZ m=0 then upd Va cZ.toNat l else Va) Vb/\Keep (λb=>¬D b) w w':=by
 obtain⟨Ra,Rb,h1,h2,h3,h4⟩:=h
 have hx:=xU HL h3 hn cZ fa cap l hA hl (λb off e=>(h2 b (hfa b off e)).1) (by omega)
 rw[hm] at hx
 refine hx.mono ?_
 rintro e w' ⟨rfl,q1,q2⟩
 exact⟨rfl,⟨Ra,Rb,h1,h2,q1,h4.keep q2 (λb e=>(h1 b).resolve_left e)⟩,q2.mono λb e hd=>e (h2 b hd).1⟩
theorem TS.ta(HL:Lib)(h:TS D w ga gb na nb da db Va Vb)(hn:na<=100000000000000)(l:Int) :
 Calls (Al.PB prog false) 10 #[.pointer (some ⟨da,0,none⟩),.int .i64 l] w λe w'=>e=.returned (bT (dA ga l))/\TS D w' ga gb (na+1) nb da db (if dA ga l=0 then upd Va l.toNat (List.replicate (ga.Y-21) 0) else Va) Vb/\Keep (λb=>¬D b) w w':=by
 obtain⟨Ra,Rb,h1,h2,h3,h4⟩:=h
 refine(JE HL h3 hn l).mono ?_
 rintro e w' ⟨rfl,q1,q2⟩
 exact⟨rfl,⟨Ra,Rb,h1,h2,q1,h4.keep q2 (λb e=>(h1 b).resolve_left e)⟩,q2.mono λb e hd=>e (h2 b hd).1⟩
theorem TS.fa(HL:Lib)(h:TS D w ga gb na nb da db Va Vb)(hn:na<=100000000000000) :
 Calls (Al.PB prog false) 11 #[.pointer (some ⟨da,0,none⟩)] w λe w'=>e=.returned .nilIface/\TS D w' ga gb (na+1) nb da db Va Vb/\Keep (λb=>¬D b) w w':=by
 obtain⟨Ra,Rb,h1,h2,h3,h4⟩:=h
 refine(ER HL h3 hn).mono ?_
 rintro e w' ⟨rfl,q1,q2⟩
 exact⟨rfl,⟨Ra,Rb,h1,h2,q1,h4.keep q2 (λb e=>(h1 b).resolve_left e)⟩,q2.mono λb e hd=>e (h2 b hd).1⟩
theorem TS.ra(HL:Lib)(h:TS D w ga gb na nb da db Va Vb)(hn:na<=100000000000000)(l:Int) :
 Calls (Al.PB prog false) 12 #[.pointer (some ⟨da,0,none⟩),.int .i64 l] w λe w'=>((dA ga l≠0/\e=.returned (.tuple #[.slice none 0 0,bT (dA ga l)])/\w'=w)\/(∃ j:Nat,l=j/\j<ga.L/\VN e w w' (Va j))):=by
 obtain⟨Ra,Rb,h1,h2,h3,h4⟩:=h
 exact CS HL h3 hn l
theorem TS.sa(h:TS D w ga gb na nb da db Va Vb) :
 Calls (Al.PB prog false) 7 #[.pointer (some ⟨da,0,none⟩)] w λe w'=>e=.returned (.int .i64 ((ga.Y-21:Nat):Int))/\w'=w:=by
 obtain⟨Ra,Rb,h1,h2,h3,h4⟩:=h
 exact CP h3
end
theorem TS.two{w1 w2 w3:World}{ga gb:Gm}{da db:Nat}{Va Vb:Nat->List Nat}(h1:CO ga (λb=>b<w1.heap.size) 0 w2 da Va)(h12:w1.heap.size<=w2.heap.size)(h2:CO gb (λb=>b<w2.heap.size) 0 w3 db Vb)(h23:Below w2.heap.size w2 w3):TS (λb=>b<w1.heap.size) w3 ga gb 0 0 da db Va Vb :=
 ⟨λb=>b<w1.heap.size\/w2.heap.size<=b,λb=>b<w2.heap.size,λb=>by omega,λb e=>⟨Or.inl e,by omega⟩,(h1.more (λb e=>e)).below h23,h2⟩
theorem TS.bU{D:Nat->Prop}{w1 w w':World}(h:Below w1.heap.size w1 w)(hk:Keep (λb=>¬D b) w w')(hd:∀ b,b<w1.heap.size->D b):Below w1.heap.size w1 w':=h.trans (oh hk h.size hd)
theorem ES(HL:Lib)(g0 g1 g2 g3 lb sp:Int)(W:World):Calls (Al.PB prog false) 6 #[.agg #[.int .i64 g0,.int .i64 g1,.int .i64 g2,.int .i64 g3],.int .i64 lb,.int .i64 sp] W λe w' =>
 (∃ c:Nat,c≠0/\e=.returned (.tuple #[.pointer none,.iface 58 (.int .i64 (c:Nat))])/\Below W.heap.size W w') \/
 (∃ (g:Gm) (db:Nat),(g0=g.D/\g1=g.B/\g2=g.P/\g3=g.Y/\lb=g.L/\sp=g.spare)/\Geo g.D g.B g.P g.Y/\lH g.D g.B g.P g.Y (g.L:Int) (g.spare:Int)=0/\e=.returned (.tuple #[.pointer (some ⟨db,0,none⟩),.nilIface])/\CO g (λb=>b<W.heap.size) 0 w' db (λ_=>List.replicate (g.Y-21) 0)/\Below W.heap.size W w'):=by
 rcases EK g0 g1 g2 g3 lb sp with h|⟨g,rfl,rfl,rfl,rfl,rfl,rfl,hG,hc⟩
 ·exact(sS W h).mono λe w' h=>Or.inl h
 ·refine(JF HL _ W hG hc (λb hb=>hb)).mono ?_
  rintro e w' ⟨db,q0,q1,q2⟩
  exact Or.inr ⟨g,db,⟨rfl,rfl,rfl,rfl,rfl,rfl⟩,hG,hc,q0,q1,q2⟩
structure TW(w1 wq:World)(ga gb:Gm)(n da db:Nat):Prop where
 ts:∃ V,TS (λb=>b<w1.heap.size) wq ga gb n n da db V V/\∀ j,(V j).length<=1000
 bU:Below w1.heap.size w1 wq
theorem TW.below{w1 wq w':World}{ga gb:Gm}{n da db:Nat}(h:TW w1 wq ga gb n da db)(hb:Below wq.heap.size wq w'):TW w1 w' ga gb n da db:=by
 obtain⟨V,hV,hl⟩:=h.ts
 exact⟨⟨V,hV.below hb,hl⟩,h.bU.trans (hb.mono h.bU.size)⟩
theorem TW.late{w1 wq:World}{ga gb:Gm}{n m da db:Nat}(h:TW w1 wq ga gb n da db)(hm:n<=m):TW w1 wq ga gb m da db:=by
 obtain⟨V,hV,hl⟩:=h.ts
 exact⟨⟨V,hV.late hm hm,hl⟩,h.bU⟩
structure TV(w1 wr wq:World)(N:Nat)(ga gb:Gm)(na nb da db:Nat)(Va Vb:Nat->List Nat):Prop where
 ts:TS (λb=>b<w1.heap.size\/(wr.heap.size<=b/\b<N)) wq ga gb na nb da db Va Vb
 bU:Below w1.heap.size w1 wq
theorem TW.begin{w1 wr wq:World}{ga gb:Gm}{n da db:Nat}(h:TW w1 wr ga gb n da db)(hb:Below wr.heap.size wr wq):∃ V,TV w1 wr wq wq.heap.size ga gb n n da db V V/\∀ j,(V j).length<=1000:=by
 obtain⟨V,hV,hl⟩:=h.ts
 exact⟨V,⟨(hV.more (λb e=>e.elim Or.inl (λe=>Or.inr e.1))).below hb,h.bU.trans (hb.mono h.bU.size)⟩,hl⟩
section
variable {w1 wr wq:World} {N:Nat} {ga gb:Gm} {na nb da db:Nat} {Va Vb:Nat->List Nat}
theorem TV.done{n:Nat}{V:Nat->List Nat}(h:TV w1 wr wq N ga gb n n da db V V)(hl:∀ j,(V j).length<=1000):TW w1 wq ga gb n da db:=⟨⟨V,h.ts.more (λb e=>Or.inl (Or.inl e)),hl⟩,h.bU⟩
theorem TV.swap(h:TV w1 wr wq N ga gb na nb da db Va Vb):TV w1 wr wq N gb ga nb na db da Vb Va:=⟨h.ts.swap,h.bU⟩
theorem TV.below{w':World}(h:TV w1 wr wq N ga gb na nb da db Va Vb)(hb:Below wq.heap.size wq w'):TV w1 wr w' N ga gb na nb da db Va Vb:=⟨h.ts.below hb,h.bU.trans (hb.mono h.bU.size)⟩
def Nj(wr:World)(N:Nat)(w w':World):Prop:=∀ b,wr.heap.size<=b->b<N->b<w.heap.size->w'.heap[b]?=w.heap[b]?
theorem TV.step{w':World}{ma:Nat}{Va':Nat->List Nat}(h:TV w1 wr wq N ga gb na nb da db Va Vb)(hs:TS (λb=>b<w1.heap.size\/(wr.heap.size<=b/\b<N)) w' ga gb ma nb da db Va' Vb)(hk:Keep (λb=>¬(b<w1.heap.size\/(wr.heap.size<=b/\b<N))) wq w'):TV w1 wr w' N ga gb ma nb da db Va' Vb/\Nj wr N wq w' :=
 ⟨⟨hs,TS.bU h.bU hk (λb e=>Or.inl e)⟩,λb h1 h2 h3=>hk.block b h3 (λe=>e (Or.inr ⟨h1,h2⟩))⟩
theorem TV.write(HL:Lib)(h:TV w1 wr wq N ga gb na nb da db Va Vb)(hn:na<=100000000000000)(cZ:Int)(fa:Option Addr)(cap m:Nat)(l:List Nat)(hA:aW l)(hl:bS wq fa l)(hfa:∀ b off,fa=some ⟨b,off,none⟩->wr.heap.size<=b/\b<N)(hm:l.length=m)(hm2:m<=1000000) :
 Calls (Al.PB prog false) 9 #[.pointer (some ⟨da,0,none⟩),.int .i64 cZ,.slice fa m cap] wq λe w'=>e=.returned (bT (fu ga cZ m))/\TV w1 wr w' N ga gb (na+1) nb da db (if fu ga cZ m=0 then upd Va cZ.toNat l else Va) Vb/\Nj wr N wq w'/\wq.heap.size<=w'.heap.size :=
 (h.ts.wa HL hn cZ fa cap m l hA hl (λb off e=>Or.inr (hfa b off e)) hm hm2).mono λe w' ⟨q0,q1,q2⟩=>⟨q0,(h.step q1 q2).1,(h.step q1 q2).2,q2.size⟩
theorem TV.trim(HL:Lib)(h:TV w1 wr wq N ga gb na nb da db Va Vb)(hn:na<=100000000000000)(l:Int) :
 Calls (Al.PB prog false) 10 #[.pointer (some ⟨da,0,none⟩),.int .i64 l] wq λe w'=>e=.returned (bT (dA ga l))/\TV w1 wr w' N ga gb (na+1) nb da db (if dA ga l=0 then upd Va l.toNat (List.replicate (ga.Y-21) 0) else Va) Vb/\Nj wr N wq w' :=
 (h.ts.ta HL hn l).mono λe w' ⟨q0,q1,q2⟩=>⟨q0,(h.step q1 q2).1,(h.step q1 q2).2⟩
theorem TV.flush(HL:Lib)(h:TV w1 wr wq N ga gb na nb da db Va Vb)(hn:na<=100000000000000) :
 Calls (Al.PB prog false) 11 #[.pointer (some ⟨da,0,none⟩)] wq λe w'=>e=.returned .nilIface/\TV w1 wr w' N ga gb (na+1) nb da db Va Vb/\Nj wr N wq w' :=
 (h.ts.fa HL hn).mono λe w' ⟨q0,q1,q2⟩=>⟨q0,(h.step q1 q2).1,(h.step q1 q2).2⟩
def RdO(e:Ending)(w w':World)(c m:Nat)(l:List Nat):Prop:=(c≠0/\e=.returned (.tuple #[.slice none 0 0,bT c])/\w'=w)\/(c=0/\∃ gb,e=.returned (.tuple #[.slice (some ⟨gb,0,none⟩) l.length l.length,.nilIface])/\Row w' gb l/\Below w.heap.size w w')
theorem TV.read(HL:Lib)(h:TV w1 wr wq N ga gb na nb da db Va Vb)(hn:na<=100000000000000)(l:Int) :
 Calls (Al.PB prog false) 12 #[.pointer (some ⟨da,0,none⟩),.int .i64 l] wq λe w'=>RdO e wq w' (dA ga l) 0 (Va l.toNat):=by
 refine(h.ts.ra HL hn l).mono ?_
 rintro e w' (h0|⟨j,rfl,hj,gb,rfl,hge,hrow,hb⟩)
 ·exact Or.inl h0
 ·refine Or.inr ⟨if_neg (by simp;omega),gb,?_,?_,hb⟩
  ·rw[Int.toNat_natCast]
  ·rw[Int.toNat_natCast];exact hrow
end
theorem Nj.cell{wr w w':World}{N:Nat}(h:Nj wr N w w'){b:Nat}(o:Nat)(h1:wr.heap.size<=b)(h2:b<N)(h3:b<w.heap.size):w'.cell? ⟨b,o,none⟩=w.cell? ⟨b,o,none⟩:=World.cell?_of_block (h b h1 h2 h3)
theorem Nj.lies{wr w w':World}{N:Nat}{fa:Option Addr}{l:List Nat}(h:Nj wr N w w')(hl:bS w fa l)(hfa:∀ b off,fa=some ⟨b,off,none⟩->wr.heap.size<=b/\b<N)(hN:N<=w.heap.size):bS w' fa l:=by
 rcases hl with hl|⟨b,off,e,hl⟩
 ·exact Or.inl hl
 ·have hb:=hfa b off e
  exact Or.inr ⟨b,off,e,λi hi=>(h.cell _ hb.1 hb.2 (by omega)).trans (hl i hi)⟩
theorem EU{V:Nat->List Nat}{l:List Nat}{c k:Nat}(h:∀ j,(V j).length<=1000)(hl:l.length<=1000):∀ j,((if c=0 then upd V k l else V) j).length<=1000:=by
 intro j
 split
 ·unfold upd
  split
  ·exact hl
  ·exact h j
 ·exact h j
theorem CW(HL:Lib){w1 wr wq w2:World}{ga gb:Gm}{n da db:Nat}{fa:Option Addr}{cap m:Nat}{l:List Nat}(h:TW w1 wr ga gb n da db)(hL:ga.L=gb.L)(hY:ga.Y=gb.Y)(hal:Below wr.heap.size wr wq)(hb:Gz wq w2 fa cap m l)(hm:m<=256)(hn:n<=100000000000000)(cZ:Int) :
 Calls (Al.PB prog false) 9 #[.pointer (some ⟨da,0,none⟩),.int .i64 cZ,.slice fa m cap] w2 λe w3=>e=.returned (bT (fu ga cZ m))/\Nj wr w2.heap.size w2 w3 /\
  Calls (Al.PB prog false) 9 #[.pointer (some ⟨db,0,none⟩),.int .i64 cZ,.slice fa m cap] w3 λe w4=>e=.returned (bT (fu ga cZ m))/\TW w1 w4 ga gb (n+1) da db:=by
 have hw:Below wr.heap.size wr w2:=hal.trans (hb.bU.mono hal.size)
 obtain⟨V,hV,hl⟩:=h.begin hw
 have hfa:∀ b off,fa=some ⟨b,off,none⟩->wr.heap.size<=b/\b<w2.heap.size:=λb off e=>by
  have:=hb.own.ge (b:=b) ⟨_,e,rfl⟩
  have:=hal.size
  omega
 have hlen:=hb.len
 refine(hV.write HL hn cZ fa cap m l hb.all hb.own.lies hfa hlen (by omega)).mono ?_
 rintro e w3 ⟨rfl,q1,q2,q3⟩
 refine⟨rfl,q2,?_⟩
 have hx:=q1.swap.write HL hn cZ fa cap m l hb.all (q2.lies hb.own.lies hfa (Nat.le_refl _)) hfa hlen (by omega)
 have hc:fu gb cZ m=fu ga cZ m:=by unfold fu;rw[hL,hY]
 rw[hc] at hx
 refine hx.mono ?_
 rintro e w4 ⟨rfl,r1,r2,r3⟩
 exact⟨rfl,r1.swap.done (EU hl (by omega))⟩
theorem GA(HL:Lib){w1 wr w2:World}{ga gb:Gm}{n da db:Nat}(h:TW w1 wr ga gb n da db)(hL:ga.L=gb.L)(hY:ga.Y=gb.Y)(hy:ga.Y<=277)(hw:Below wr.heap.size wr w2)(hn:n<=100000000000000)(cZ:Int) :
 Calls (Al.PB prog false) 10 #[.pointer (some ⟨da,0,none⟩),.int .i64 cZ] w2 λe w3=>e=.returned (bT (dA ga cZ))/\Nj wr w2.heap.size w2 w3 /\
  Calls (Al.PB prog false) 10 #[.pointer (some ⟨db,0,none⟩),.int .i64 cZ] w3 λe w4=>e=.returned (bT (dA ga cZ))/\TW w1 w4 ga gb (n+1) da db:=by
 obtain⟨V,hV,hl⟩:=h.begin hw
 refine(hV.trim HL hn cZ).mono ?_
 rintro e w3 ⟨rfl,q1,q2⟩
 refine⟨rfl,q2,?_⟩
 have hx:=q1.swap.trim HL hn cZ
 have hc:dA gb cZ=dA ga cZ:=by unfold dA;rw[hL]
 rw[hc,<-hY] at hx
 refine hx.mono ?_
 rintro e w4 ⟨rfl,r1,r2⟩
 exact⟨rfl,r1.swap.done (EU hl (by rw[List.length_replicate];omega))⟩
theorem CX(HL:Lib){w1 wr w2:World}{ga gb:Gm}{n da db:Nat}(h:TW w1 wr ga gb n da db)(hw:Below wr.heap.size wr w2)(hn:n<=100000000000000) :
 Calls (Al.PB prog false) 11 #[.pointer (some ⟨da,0,none⟩)] w2 λe w3=>e=.returned .nilIface /\
  Calls (Al.PB prog false) 11 #[.pointer (some ⟨db,0,none⟩)] w3 λe w4=>e=.returned .nilIface/\TW w1 w4 ga gb (n+1) da db:=by
 obtain⟨V,hV,hl⟩:=h.begin hw
 refine(hV.flush HL hn).mono ?_
 rintro e w3 ⟨rfl,q1,q2⟩
 refine⟨rfl,(q1.swap.flush HL hn).mono ?_⟩
 rintro e w4 ⟨rfl,r1,r2⟩
 exact⟨rfl,r1.swap.done hl⟩
theorem GD(HL:Lib){w1 wr w2:World}{ga gb:Gm}{n da db:Nat}(h:TW w1 wr ga gb n da db)(hL:ga.L=gb.L)(hw:Below wr.heap.size wr w2)(hn:n<=100000000000000)(cZ:Int) :
 Calls (Al.PB prog false) 12 #[.pointer (some ⟨da,0,none⟩),.int .i64 cZ] w2 λe w3=>∃ (x:Option Addr) (m:Nat),e=.returned (.tuple #[.slice x m m,bT (dA ga cZ)])/\Below w2.heap.size w2 w3 /\
  Calls (Al.PB prog false) 12 #[.pointer (some ⟨db,0,none⟩),.int .i64 cZ] w3 λe w4=>∃ y:Option Addr,e=.returned (.tuple #[.slice y m m,bT (dA ga cZ)]) /\
   Calls (Al.PB prog false) 13 #[.slice x m m,.slice y m m] w4 λe w5=>e=.returned (.bool true)/\TW w1 w5 ga gb n da db:=by
 obtain⟨V,hV,hl⟩:=h.begin hw
 have hc:dA gb cZ=dA ga cZ:=by unfold dA;rw[hL]
 refine(hV.read HL hn cZ).mono ?_
 rintro e w3 (⟨h0,rfl,rfl⟩|⟨h0,ab,rfl,hrow,hb⟩)
 ·refine⟨none,0,rfl,Below.refl _ _,(hV.swap.read HL hn cZ).mono ?_⟩
  rw[hc]
  rintro e w4 (⟨_,rfl,rfl⟩|⟨h1,_⟩)
  ·refine⟨none,rfl,(mF none none [] [] 0 0 w4 (by simp) (by simp) (Or.inl rfl) (Or.inl rfl)).mono ?_⟩
   rintro e w5 ⟨rfl,h5⟩
   exact⟨by simp,(hV.below h5).done hl⟩
  ·exact absurd h1 h0
 ·rw[h0,bO]
  refine⟨_,_,rfl,hb,((hV.below hb).swap.read HL hn cZ).mono ?_⟩
  rw[hc]
  rintro e w4 (⟨h1,_⟩|⟨_,bb,rfl,hrow2,hb2⟩)
  ·exact absurd h0 h1
  ·refine⟨_,rfl,(mF _ _ _ _ _ _ w4 (by have:=hl cZ.toNat;omega) (by have:=hl cZ.toNat;omega) (gT (hrow.below hb2)) (gT hrow2)).mono ?_⟩
   rintro e w5 ⟨rfl,h5⟩
   exact⟨by simp,(((hV.below hb).below hb2).below h5).done hl⟩
theorem xV(c:Nat):bT c=.nilIface\/∃ k:Nat,bT c=.iface 58 (.int .i64 (k:Nat)):=by
 by_cases h:c=0
 ·rw[h];exact Or.inl bO
 ·exact Or.inr ⟨c,dS h⟩
set_option maxRecDepth 100000 in
theorem GH(HL:Lib)(g0 g1 g2 g3 h0 h1 h2 h3 lb sp:Int)(a:Option Addr)(n cap:Nat)(w:World)(hS:SL w a n)(hn:n<=10000000000000) :
 Calls (Al.PB prog false) 3 #[.agg #[.int .i64 g0,.int .i64 g1,.int .i64 g2,.int .i64 g3],.agg #[.int .i64 h0,.int .i64 h1,.int .i64 h2,.int .i64 h3],.int .i64 lb,.int .i64 sp,.slice a n cap] w λe w'=>e=.returned (.bool true)/\Below w.heap.size w w':=by
 have HNa:=ES HL g0 g1 g2 g3 lb sp
 have HNb:=ES HL h0 h1 h2 g3 lb sp
 have HS:Hid (∀ W,Below w.heap.size w W->SL W a n):=λW hW=>hS.below hW
 clear hS
 go_enter Al.func3,Tryz.ntmps3
 go_wp2_with fail
 refine(sU HL _).mono ?_
 rintro e w1 ⟨rfl,hb1⟩
 have hg:=λo=>hb1.cell (p:=⟨w.heap.size,o,none⟩) (by simp;omega)
 have hh:=λo=>hb1.cell (p:=⟨w.heap.size+1,o,none⟩) (by simp)
 have k0:=hg 0
 have k1:=hg 1
 have k2:=hg 2
 have k3:=hg 3
 have m0:=hh 0
 have m1:=hh 1
 have m2:=hh 2
 have m3:=hh 3
 have fz:w1.frozen? ⟨w.heap.size+1,3,none⟩=false:=by
  rw[hb1.frozen (p:=⟨w.heap.size+1,3,none⟩) (by simp)]
  simp
 simp at k0 k1 k2 k3 m0 m1 m2 m3
 have hlt:w.heap.size+1<w1.heap.size:=Nat.lt_of_lt_of_le (by simp) hb1.size
 have hBw:Below w.heap.size w w1:=((aA w _).trans ((aA _ _).mono (by simp))).trans (hb1.mono (by simp;omega))
 have HB:Hid (Below w.heap.size w (w1.setCell ⟨w.heap.size+1,3,none⟩ (.int .i64 g3))):=hBw.setCell (by simp) _
 clear hb1 hg hh hBw
 have HM:Hid (∀ W',Below w1.heap.size (w1.setCell ⟨w.heap.size+1,3,none⟩ (.int .i64 g3)) W'->W'.cell? ⟨w.heap.size+1,0,none⟩=some (.int .i64 h0)/\W'.cell? ⟨w.heap.size+1,1,none⟩=some (.int .i64 h1)/\W'.cell? ⟨w.heap.size+1,2,none⟩=some (.int .i64 h2)/\W'.cell? ⟨w.heap.size+1,3,none⟩=some (.int .i64 g3)):=λW' hW=>by
  have hc:=λo=>hW.cell (p:=⟨w.heap.size+1,o,none⟩) hlt
  refine⟨(hc 0).trans ?_,(hc 1).trans ?_,(hc 2).trans ?_,(hc 3).trans ?_⟩
  ·exact(World.cell?_setCell_other _ _ _ _ (λe=>by cases e)).trans m0
  ·exact(World.cell?_setCell_other _ _ _ _ (λe=>by cases e)).trans m1
  ·exact(World.cell?_setCell_other _ _ _ _ (λe=>by cases e)).trans m2
  ·exact World.cell?_setCell_same _ _ _ m3
 have HZ:Hid (w1.heap.size=(w1.setCell ⟨w.heap.size+1,3,none⟩ (.int .i64 g3)).heap.size):=by show _=_;simp
 go_wp2_with fail
 refine(HNa _).mono ?_
 generalize hWg:w1.setCell ⟨w.heap.size+1,3,none⟩ (.int .i64 g3)=W at *
 clear k0 k1 k2 k3 m0 m1 m2 m3 fz hlt hWg
 rintro e w2 (⟨c,hc,rfl,hb2⟩|⟨ga,da,Yo,Vq,hca,rfl,hoa,hb2⟩)
 ·obtain⟨n0,n1,n2,n3⟩:=HM.out w2 (by rw[HZ.out];exact hb2)
  have HB2:Hid (Below w.heap.size w w2):=HB.out.trans (hb2.mono HB.out.size)
  clear hb2
  go_wp2_with fail
  refine(HNb _).mono ?_
  rintro e w3 (⟨c2,hc2,rfl,hb3⟩|⟨gb,db,Y4,Y5,hcb,rfl,VO,hb3⟩)
  ·have HE:Hid (Below w.heap.size w w3):=HB2.out.trans (hb3.mono HB2.out.size)
   clear hb3
   go_wp2
   go_ret
   exact⟨rfl,HE.out⟩
  ·have HE:Hid (Below w.heap.size w w3):=HB2.out.trans (hb3.mono HB2.out.size)
   clear hb3 VO Y4 Y5 hcb
   go_wp2
   go_ret
   exact⟨rfl,HE.out⟩
 ·obtain⟨n0,n1,n2,n3⟩:=HM.out w2 (by rw[HZ.out];exact hb2)
  have HB2:Hid (Below w.heap.size w w2/\Below W.heap.size W w2):=⟨HB.out.trans (hb2.mono HB.out.size),hb2⟩
  have HA:Hid ((g0=ga.D/\g1=ga.B/\g2=ga.P/\g3=ga.Y/\lb=ga.L/\sp=ga.spare)/\Geo ga.D ga.B ga.P ga.Y/\lH ga.D ga.B ga.P ga.Y (ga.L:Int) (ga.spare:Int)=0/\CO ga (λb=>b<W.heap.size) 0 w2 da (λ_=>List.replicate (ga.Y-21) 0)):=⟨Yo,Vq,hca,hoa⟩
  clear hb2 Yo Vq hca hoa
  go_wp2_with fail
  refine(HNb _).mono ?_
  rintro e w3 (⟨c2,hc2,rfl,hb3⟩|⟨gb,db,Y4,Y5,hcb,rfl,VO,hb3⟩)
  ·have HE:Hid (Below w.heap.size w w3):=HB2.out.1.trans (hb3.mono HB2.out.1.size)
   clear hb3
   go_wp2
   go_ret
   exact⟨rfl,HE.out⟩
  ·obtain⟨Yo,Vq,hca,hoa⟩:=HA.out
   have hL:ga.L=gb.L:=by omega
   have hY:ga.Y=gb.Y:=by omega
   have hyy:=Vq.y1
   obtain⟨_,_,_,_,hy24,hL1,hL2,hF⟩:=rV Vq hca
   rw[<-hY] at VO
   have H3:Hid (TW W w3 ga gb 0 da db):=⟨⟨_,TS.two hoa HB2.out.2.size VO hb3,λj=>by simp;omega⟩,HB2.out.2.trans (hb3.mono HB2.out.2.size)⟩
   have HQ:Hid (ga.L=gb.L/\ga.Y=gb.Y/\ga.Y<=277):=⟨hL,hY,by omega⟩
   obtain⟨m,hm⟩:∃ m,ga.Y-21=m:=⟨_,rfl⟩
   have hm1:m<=256:=by omega
   obtain⟨V0,RB,_⟩:=H3.out.ts
   have hsz:=RB.sa
   rw[hm] at hsz
   clear VO hb3 Yo Vq hca hoa Y4 Y5 hcb hL hY hyy hy24 hL1 hL2 hF HA RB hm HB2 HM n0 n1 n2 n3
   go_wp2_with fail
   refine hsz.mono ?_
   rintro e w4 ⟨rfl,rfl⟩
   clear hsz
   go_wp2
   go_loopw [17] (λj wq=>∃ (i:Nat),i<=n/\j=.int .i64 i/\Hid (TW W wq ga gb i da db)) (λj _=>n-(intOf j).toNat)
   case atStart=>exact⟨0,Nat.zero_le _,rfl,H3.out⟩
   case round =>
    obtain⟨i,hi,rfl,hR⟩:=hrel
    clear H3
    by_cases hlt:i<n
    ·obtain⟨sg,so,ha,hsc⟩:=(HS.out wr (HB.out.trans (hR.out.bU.mono HB.out.size))).resolve_left (by omega)
     subst ha
     obtain⟨x,y,z,c0,c1,c2,hyb⟩:=hsc i hlt
     clear hsc
     by_cases hx:x=1
     ·subst hx
      go_wp2_with fail
      refine(pR z m _ (by omega)).mono ?_
      rintro e w5 ⟨ba,VJ,bl,rfl,hbk⟩
      have hbc:=hbk.bU.cell (p:=⟨wr.heap.size,1,none⟩) (by simp)
      simp at hbc
      have hwr:=CW HL hR.out HQ.out.1 HQ.out.2.1 (aA wr _) hbk hm1 (by omega) y
      have xR:wr.heap.size<w5.heap.size:=Nat.lt_of_lt_of_le (by simp) hbk.bU.size
      clear hbk c0 c1 c2 hR
      rcases xV (fu ga y m) with he|⟨k,he⟩
      all_goals
       rw[he] at hwr
       clear he
       go_wp2_with fail
       refine hwr.mono ?_
       rintro e w6 ⟨rfl,hst,hw2⟩
       have CY:=(hst.cell 1 (Nat.le_refl _) xR xR).trans hbc
       clear hst hwr hbc xR
       go_wp2_with fail
       refine hw2.mono ?_
       rintro e w7 ⟨rfl,JG⟩
       have H7:Hid (TW W w7 ga gb (i+1) da db):=JG
       clear JG hw2 CY
       go_wp2
       go_region
       all_goals
        go_wp2
        exact⟨⟨i+1,by omega,by go_num,H7.out.below (Below.refl _ _).drew⟩,by simp[intOf];omega⟩
     ·by_cases hx2:x=2
      ·subst hx2
       have htr:=λo=>GA HL hR.out HQ.out.1 HQ.out.2.1 HQ.out.2.2 (aA wr o) (by omega) y
       have xR:∀ o,wr.heap.size<(wr.alloc o).heap.size:=λo=>by simp
       have HC:Hid (∀ o:Obj,wr.heap.size<(wr.alloc o).heap.size):=xR
       clear hR xR
       rcases xV (dA ga y) with he|⟨k,he⟩
       all_goals
        simp only[he] at htr
        clear he
        go_wp2_with fail
        refine(htr _).mono ?_
        rintro e w6 ⟨rfl,hst,hw2⟩
        have CY:=hst.cell 1 (Nat.le_refl _) (HC.out _) (HC.out _)
        simp at CY
        clear hst htr
        go_wp2_with fail
        refine hw2.mono ?_
        rintro e w7 ⟨rfl,JG⟩
        have H7:Hid (TW W w7 ga gb (i+1) da db):=JG
        clear JG hw2 CY
        go_wp2
        go_region
        all_goals
         go_wp2
         exact⟨⟨i+1,by omega,by go_num,H7.out.below (Below.refl _ _).drew⟩,by simp[intOf];omega⟩
      ·by_cases hx3:x=3
       ·subst hx3
        have hfl:=λo=>CX HL hR.out (aA wr o) (by omega)
        clear hR
        go_wp2_with fail
        refine(hfl _).mono ?_
        rintro e w6 ⟨rfl,hw2⟩
        clear hfl
        go_wp2_with fail
        refine hw2.mono ?_
        rintro e w7 ⟨rfl,JG⟩
        have H7:Hid (TW W w7 ga gb (i+1) da db):=JG
        clear JG hw2
        go_wp2
        go_region
        all_goals
         go_wp2
         exact⟨⟨i+1,by omega,by go_num,H7.out.below (Below.refl _ _).drew⟩,by simp[intOf];omega⟩
       ·have hrd:=λo=>GD HL hR.out HQ.out.1 (aA wr o) (by omega) y
        have HC:Hid (∀ o:Obj,wr.heap.size<(wr.alloc o).heap.size):=λo=>by simp
        clear hR
        rcases xV (dA ga y) with he|⟨k,he⟩
        all_goals
         simp only[he] at hrd
         clear he
         go_wp2_with fail
         refine(hrd _).mono ?_
         rintro e w6 ⟨xa,xm,rfl,hb6,hw2⟩
         have CY:=hb6.cell (p:=⟨wr.heap.size,1,none⟩) (HC.out _)
         simp at CY
         clear hb6 hrd
         go_wp2_with fail
         refine hw2.mono ?_
         rintro e w7 ⟨ya,rfl,hw3⟩
         clear hw2 CY
         go_wp2_with fail
         refine hw3.mono ?_
         rintro e w8 ⟨rfl,JG⟩
         have H7:Hid (TW W w8 ga gb (i+1) da db):=JG.late (by omega)
         clear JG hw3
         go_wp2
         go_region
         all_goals
          go_wp2
          exact⟨⟨i+1,by omega,by go_num,H7.out.below (Below.refl _ _).drew⟩,by simp[intOf];omega⟩
    ·have HE:Hid (Below w.heap.size w wr):=HB.out.trans (hR.out.bU.mono HB.out.size)
     obtain rfl:i=n:=by omega
     clear hR
     go_wp2
     go_ret
     exact⟨rfl,HE.out⟩
end Go.Proofs.aB
namespace Go.Proofs.YtljjjonaaoedpaaGreat
open Tryz (prog)
open Go Go.Conc Go.RowKit
set_option maxRecDepth 20000 in
theorem Gv{W:World}{pa:Option Addr}{len cap:Nat}{z:Nat->Int}{g0 g1 g2 g3 h0 h1 h2 h3 lb sp:Int}(hs:W.ShapedOpen prog)(hle:len<=cap)(hN:RF W pa (cap*3) z)(hn:len<=10000000000000) :
 ∃ N last o w' t',runNT prog (N+1) (solo (G (Frame.enter prog 3 #[.agg #[.int .i64 g0,.int .i64 g1,.int .i64 g2,.int .i64 g3],.agg #[.int .i64 h0,.int .i64 h1,.int .i64 h2,.int .i64 h3],.int .i64 lb,.int .i64 sp,.slice pa len cap] .normal) []) W) #[]=(.ended o w',t')/\runN prog N (solo (G (Frame.enter prog 3 #[.agg #[.int .i64 g0,.int .i64 g1,.int .i64 g2,.int .i64 g3],.agg #[.int .i64 h0,.int .i64 h1,.int .i64 h2,.int .i64 h3],.int .i64 lb,.int .i64 sp,.slice pa len cap] .normal) []) W)=.next last/\step prog last=.ended o w' /\
   Go.Conc.Good prog (λv w'=>v=.bool true/\Below W.heap.size W w') last o w' t':=by
 obtain⟨C,hC⟩:∃ C,C=[jw W pa (cap*3)]:=⟨_,rfl⟩
 have hC0:C[0]?=some (jw W pa (cap*3)):=by rw[hC];rfl
 obtain⟨hg,hG⟩:=qU hs
 obtain⟨fns,xS⟩:∃ fns,fns=iM prog.funcs (rO W C) (zT W C) (Np W C):=⟨_,rfl⟩
 have hlo:fns.lo=rO W C:=by rw[xS];rfl
 have hpt:fns.pt=zT W C:=by rw[xS];rfl
 have JA:∀ (k:Nat) (d:Cp),C[k]?=some d->Nq W C fns (ah.Al.PB prog false).globals.size d:=JB hN hG hC
 have hwr:WR (ah.Al.PB prog false) fns (EL W C) (Yn W C) (Ni W C) W:=QV W C hlo hpt (λ_=>⟨by rw[hC];exact Nat.le_refl _,EN⟩) hg JA
 have hargs:aT fns (EL W C) #[.agg #[.int .i64 g0,.int .i64 g1,.int .i64 g2,.int .i64 g3],.agg #[.int .i64 h0,.int .i64 h1,.int .i64 h2,.int .i64 h3],.int .i64 lb,.int .i64 sp,.slice (RG W.heap.size pa cap) len cap] #[.agg #[.int .i64 g0,.int .i64 g1,.int .i64 g2,.int .i64 g3],.agg #[.int .i64 h0,.int .i64 h1,.int .i64 h2,.int .i64 h3],.int .i64 lb,.int .i64 sp,.slice pa len cap]:=by
  refine⟨rfl,λi h _=>?_⟩
  simp only[List.size_toArray,List.length_cons,List.length_nil] at h
  match i,h with
  |0,_=>exact CU _ _ _ _
  |1,_=>exact CU _ _ _ _
  |2,_=>exact aF rfl
  |3,_=>exact aF rfl
  |4,_=>exact vY hlo hN hC0 hle
 have hgs:∀ g,fns.gl g=true->EL W C g g/\fns.pt g=true:=λg hg=>by rw[xS] at hg;cases hg
 have hst0:=mG hargs hgs hwr
 have hk0:K0 0 W.heap[0]? (EL W C) (λ_=>False) W:=zU (Nat.lt_of_le_of_lt (Nat.zero_le _) hg) λk d hd e=>by have:=(JA k d hd 0 e).1;omega
 subst xS
 obtain⟨N,last,o,w',t',r1,r2,r3,r4⟩:=vZ (P:=(ah.Al.PB prog false)) (CV:=(iM prog.funcs (rO W C) (zT W C) (Np W C)).own (ah.Al.PB prog false)) (Q:=λv _=>v=.bool true) (f:=3) (r:=10) (wo _ _ _ _) (kM _ _ _) sW (zV _ _ _) (rW _ _ _) (JD _ _ _ _ 0 W.heap[0]?) (by kernel_rfl) ah.Al.func3 Tryz.results3 (by kernel_rfl) rfl rfl rfl hargs hwr hgs hst0 hk0 (λt d=>(aB.GH aB.lib g0 g1 g2 g3 h0 h1 h2 h3 lb sp _ len cap _ (zW hN hC0 hle t d) hn).mono λe w' h=>⟨_,h.1,rfl⟩)
 refine⟨N,last,o,w',t',r1,r2,r3,r4.mono λv h=>⟨?_,zX ⟨h.2.1,λb hb=>h.2.2.1 b hb λa x=>wu W C x,h.2.2.2⟩⟩⟩
 obtain⟨E1,v0,dZ,rfl,hv,_⟩:=h.1
 exact jH.1 hv

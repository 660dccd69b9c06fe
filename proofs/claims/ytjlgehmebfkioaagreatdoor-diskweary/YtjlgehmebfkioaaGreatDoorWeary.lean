/-
  Proved here: granarylaw2.DiskWeary returns true for all geometries, numbers and scripts, on every schedule, without a data race, all that it started having ended or only leaving, and each argument reads behind the call as it read before (a latched disk reads what was flushed, also behind power losses); conditions: none but the variable errors.errorType, which the card ties to the program's text.
-/
import Derived.Test.YtjlgehmebfkioaaGreatDoorCards
import Derived.Test.YtjlgehmebfkioaaGreatDoorTie
import Derived.Test.YtjlgehmebfkioaaGreatDoorWWeary40
import Derived.Deep.DeepWitnessRowRef
set_option maxRecDepth 100000
namespace Go.Proofs.YtjlgehmebfkioaaGreatDoor
open Go.ChangeShapes Go.WideShapes Go.ChangeAt Go.RowKit
theorem Lb:ownKnob Tryz.prog.godebug=none:=by kernel_rfl
theorem vY:laidOutB Tryz.prog=true:=by kernel_rfl
theorem GK(os:Os)(args:Array Value):laidMetH Tryz.prog Rows.diskWearyRow.laid ((World.doorLaid Tryz.prog 16 os).forCall (λ_ _=>0) ⟨#[],args,[]⟩).memory :=
 laidMetH_of_parts3 (fuel:=8) (laidMet_of_run' 8 (by kernel_rfl) (by kernel_rfl)) (by kernel_rfl) (by kernel_rfl)
theorem Eb(os:Os){H:Type}(enc:TypeId × Value->H):∃ places,DataW.whole enc Tryz.prog ((World.doorLaid Tryz.prog 16 os).forCall (λ_ _=>0) ⟨#[],#[.agg #[.int .i64 0,.int .i64 0,.int .i64 0,.int .i64 0],.int .i64 0,.int .i64 0,.slice none 0 0,.int .i64 0],[]⟩).memory Tryz.f7.params.toList Rows.diskWearySpec.vars false #[.agg #[.int .i64 0,.int .i64 0,.int .i64 0,.int .i64 0],.int .i64 0,.int .i64 0,.slice none 0 0,.int .i64 0].toList 8=some ([.agg [.lit (.int .i64 0),.lit (.int .i64 0),.lit (.int .i64 0),.lit (.int .i64 0)],.lit (.int .i64 0),.lit (.int .i64 0),.nil,.lit (.int .i64 0)],[],places) :=
 ⟨[],by kernel_rfl⟩
theorem Bt(os:Os)(started:os.Started)(H:Type)(enc:TypeId × Value->H)(F:Stop.Interp) :
 ReturnsInLeavingWide {} Tryz.checked os 7 .any ((OpenSpec.ofChange Rows.diskWearySpec).preRow enc Tryz.prog Tryz.f7 Rows.diskWearyRow.domain false Rows.diskWearyRow.laid) (((OpenSpec.ofChange Rows.diskWearySpec).at F).post enc Tryz.prog Tryz.f7 false true false false):=by
 obtain⟨places,hx⟩:=Eb os enc
 refine Bu (C:=Tryz.checked) (s:=(OpenSpec.ofChange Rows.diskWearySpec)) Lb started Tryz.func7
  (witness_row_atRef (enc:=enc) (C:=Tryz.checked) false (World.doorLaid Tryz.prog 16 os) #[.agg #[.int .i64 0,.int .i64 0,.int .i64 0,.int .i64 0],.int .i64 0,.int .i64 0,.slice none 0 0,.int .i64 0] rfl (by kernel_rfl) (by kernel_rfl) (by kernel_rfl)
   (OpenSpec.preRow_of_cond 8 hx (by kernel_rfl) (λk hk=>by cases hk) (by kernel_rfl) (GK os _))) ?_
 intro W base args ds gs before hs0 hval0 hW hsz0 hL
 have hs:W.ShapedOpen Tryz.prog:=hs0
 have hval:∀ (j:Nat) t v,Tryz.f7.params[j]?=some t->args[j]?=some v->Value.okWide Tryz.prog W .any base t v:=hval0
 have hW':=hW
 obtain⟨p,q,hA0,hV,rfl,hfz,hnd⟩:=hW
 have hA:DataW.TrodAll enc Tryz.prog W 0 (λ_=>true) true Tryz.f7.params.toList args.toList ds p:=hA0
 have hsz:(DataW.weightsEach Tryz.prog (Tryz.f7.params.toList++Rows.diskWearySpec.plain.varTypes Tryz.prog) (ds++gs)).all (·<=reachBytes)=true:=hsz0
 rw[Tryz.params7] at hA hval hsz
 obtain⟨v0,vs0,d0,ds0,p0,q0,hargs,rfl,rfl,h0,r0⟩:=trodAll_cons hA
 obtain⟨v1,vs1,d1,ds1,p1,q1,rfl,rfl,rfl,h1,r1⟩:=trodAll_cons r0
 obtain⟨v2,vs2,d2,ds2,p2,q2,rfl,rfl,rfl,h2,r2⟩:=trodAll_cons r1
 obtain⟨v3,vs3,d3,ds3,p3,q3,rfl,rfl,rfl,h3,r3⟩:=trodAll_cons r2
 obtain⟨v4,vs4,d4,ds4,p4,q4,rfl,rfl,rfl,h4,r4⟩:=trodAll_cons r3
 obtain⟨rfl,rfl,rfl⟩:=trodAll_nil r4
 obtain rfl:args=#[v0,v1,v2,v3,v4]:=by cases args;simp_all
 obtain⟨rfl,rfl⟩:=trodVars_none hV
 have lt0:∀ x∈p0,x.block<W.heap.size:=by obtain⟨m,hm⟩:=h0;exact DataW.trod_lt m _ _ _ hm
 have lt1:∀ x∈p1,x.block<W.heap.size:=by obtain⟨m,hm⟩:=h1;exact DataW.trod_lt m _ _ _ hm
 have lt2:∀ x∈p2,x.block<W.heap.size:=by obtain⟨m,hm⟩:=h2;exact DataW.trod_lt m _ _ _ hm
 have lt3:∀ x∈p3,x.block<W.heap.size:=by obtain⟨m,hm⟩:=h3;exact DataW.trod_lt m _ _ _ hm
 have lt4:∀ x∈p4,x.block<W.heap.size:=by obtain⟨m,hm⟩:=h4;exact DataW.trod_lt m _ _ _ hm
 obtain⟨ag8,ag9,ag_,ag',rfl⟩:=NT (λ_=>hval 0 23 v0 rfl rfl) h0
 obtain⟨pa3,aha,ahb,z3,rfl,hle3,hN3,hb3⟩:=Lc h3 (okWide_slice Tryz.underlying24 (hval 3 24 v3 rfl rfl)) hsz (j:=3) rfl rfl
 obtain⟨n1,rfl,rfl,rfl,w1⟩:=open_int Tryz.underlying3 (hval 1 3 v1 rfl rfl) h1
 obtain⟨n2,rfl,rfl,rfl,w2⟩:=open_int Tryz.underlying3 (hval 2 3 v2 rfl rfl) h2
 obtain⟨n4,rfl,rfl,rfl,w4⟩:=open_int Tryz.underlying3 (hval 4 3 v4 rfl rfl) h4
 clear hA0 hval0
 obtain⟨M,last,o,w',t',e1,e2,e3,e4⟩:=K7 hs (NU hL) hle3 hN3 (bounds_i64 w4)
 refine⟨M,last,o,w',t',e1,e2,e3,e4.mono λv hv=>?_⟩
 obtain⟨rfl,cO⟩:=hv
 exact⟨_,_,_,[],_,[],hW',trodAll_mk1 (shut_bool Tryz.underlying4 _),(trodAll_cons_mk (Below.trod vY (by kernel_rfl) (of_decide_eq_true (by kernel_rfl)) h0 cO lt0) (trodAll_cons_mk (shut_int Tryz.underlying3 w1) (trodAll_cons_mk (shut_int Tryz.underlying3 w2) (trodAll_cons_mk (Below.trod vY (by kernel_rfl) (of_decide_eq_true (by kernel_rfl)) h3 cO lt3) (trodAll_cons_mk (shut_int Tryz.underlying3 w4) trodAll_mk0))))),rfl,cO.frame _,λh=>by cases h⟩
theorem GL:Rows.DiskWearySaid :=
 mR 7 Tryz.f7 rfl rfl rfl rfl rfl rfl rfl ⟨rfl,rfl,rfl,rfl,rfl⟩ rfl rfl rfl rfl rfl (by kernel_rfl) Tryz.func7 (by kernel_rfl)
  (of_decide_eq_true (by kernel_rfl)) (by unfold Func.isWrapper;first|(rw[if_pos (by decide +kernel)];kernel_rfl)|(rw[if_neg (by decide +kernel)];exact⟨rfl,rfl⟩))
  (λos started H enc _ F=>by rw[OpenClaim.pre_eq_preRow];exact Bt os started H enc F)
theorem Ec(f:FuncId)(fn:Func)(hf:Tryz.pinned.checked.prog.funcNamed "granary/granarylaw2.DiskWeary"=some f)(hfn:Tryz.pinned.checked.prog.funcs[f]?=some fn) :
 true=Tryz.pinned.checked.prog.looks []/\∀ (j:Nat) t,fn.params[j]?=some t->Tryz.pinned.checked.prog.wantsStandIn t=false:=by
 obtain rfl:f=7:=Option.some.inj ((show Tryz.prog.funcNamed "granary/granarylaw2.DiskWeary"=some 7 by kernel_rfl).symm.trans hf) |>.symm
 obtain rfl:fn=Tryz.f7:=(Option.some.inj (Tryz.func7.symm.trans hfn)).symm
 refine⟨by kernel_rfl,λj t ht=>?_⟩
 rw[Tryz.params7] at ht
 have hm:t∈[23,3,3,24,3]:=by simpa using Array.mem_of_getElem? ht
 have hall:([23,3,3,24,3].all λu=>!Tryz.prog.wantsStandIn u)=true:=by kernel_rfl
 exact(show Tryz.prog.wantsStandIn t=false by simpa using List.all_eq_true.1 hall t hm)
theorem diskWeary_holds:Rows.DiskWearyCardSaid :=
 Ld .later _ _ _ _ GL (by kernel_rfl) diskWeary_row_tie rfl ⟨rfl,rfl⟩ (by kernel_rfl) rfl Ec (by kernel_rfl)
#print axioms diskWeary_holds

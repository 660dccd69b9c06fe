/-
  Proved here: granarylaw2.DiskTrims returns true for all geometries, numbers and scripts, on every schedule, without a data race, all that it started having ended or only leaving, and each argument reads behind the call as it read before (what is trimmed reads as noughts, also behind power losses, till it is written again). No condition.
-/
import Derived.Test.YtljjjonaaoedpaaGreatRows
import Derived.Test.YtljjjonaaoedpaaGreatWTrims36
namespace Go.Proofs.YtljjjonaaoedpaaGreat
open Go.ChangeShapes Go.WideShapes Go.ChangeAt Go.RowKit
theorem Gs:ownKnob Tryz.prog.godebug=none:=by kernel_rfl
theorem sP:laidOutB Tryz.prog=true:=by kernel_rfl
set_option maxRecDepth 100000 in
theorem xP(os:Os)(started:os.Started)(H:Type)(enc:TypeId × Value->H) :
 ReturnsInLeavingWide {} Tryz.checked os 4 .any (Rows.diskTrimsSpec.pre6 enc Tryz.prog Tryz.f4 Rows.diskTrimsRow.domain false) (Rows.diskTrimsSpec.post enc Tryz.prog Tryz.f4 false true false false):=by
 refine ni (C:=Tryz.checked) Gs started Tryz.func4
  (ChangeSpec.witness6 (enc:=enc) (C:=Tryz.checked) false ⟨#[],#[.agg #[.int .i64 0,.int .i64 0,.int .i64 0,.int .i64 0],.int .i64 0,.int .i64 0,.slice none 0 0,.int .i64 0],[]⟩ 8 (by kernel_rfl) (by kernel_rfl) (by kernel_rfl) (by kernel_rfl)) ?_
 intro W base args ds gs before hs0 hval0 hW hsz0
 have hs:W.ShapedOpen Tryz.prog:=hs0
 have hval:∀ (j:Nat) t v,Tryz.f4.params[j]?=some t->args[j]?=some v->Value.okWide Tryz.prog W .any base t v:=hval0
 have hW':=hW
 obtain⟨p,q,hA0,hV,rfl,hfz,hnd⟩:=hW
 have hA:DataW.TrodAll enc Tryz.prog W 0 (λ_=>true) true Tryz.f4.params.toList args.toList ds p:=hA0
 have hsz:(DataW.weightsEach Tryz.prog (Tryz.f4.params.toList++Rows.diskTrimsSpec.plain.varTypes Tryz.prog) (ds++gs)).all (·<=reachBytes)=true:=hsz0
 rw[Tryz.params4] at hA hval hsz
 obtain⟨v0,vs0,d0,ds0,p0,q0,hargs,rfl,rfl,h0,r0⟩:=trodAll_cons hA
 obtain⟨v1,vs1,d1,ds1,p1,q1,rfl,rfl,rfl,h1,r1⟩:=trodAll_cons r0
 obtain⟨v2,vs2,d2,ds2,p2,q2,rfl,rfl,rfl,h2,r2⟩:=trodAll_cons r1
 obtain⟨v3,vs3,d3,ds3,p3,q3,rfl,rfl,rfl,h3,r3⟩:=trodAll_cons r2
 obtain⟨v4,vs4,d4,ds4,p4,q4,rfl,rfl,rfl,h4,r4⟩:=trodAll_cons r3
 obtain⟨rfl,rfl,rfl⟩:=trodAll_nil r4
 obtain rfl:args=#[v0,v1,v2,v3,v4]:=by cases args;simp_all
 obtain⟨rfl,rfl⟩:=trodVars_none hV
 have YT:∀ x∈p0,x.block<W.heap.size:=by obtain⟨m,hm⟩:=h0;exact DataW.trod_lt m _ _ _ hm
 have Ym:∀ x∈p1,x.block<W.heap.size:=by obtain⟨m,hm⟩:=h1;exact DataW.trod_lt m _ _ _ hm
 have lt2:∀ x∈p2,x.block<W.heap.size:=by obtain⟨m,hm⟩:=h2;exact DataW.trod_lt m _ _ _ hm
 have lt3:∀ x∈p3,x.block<W.heap.size:=by obtain⟨m,hm⟩:=h3;exact DataW.trod_lt m _ _ _ hm
 have lt4:∀ x∈p4,x.block<W.heap.size:=by obtain⟨m,hm⟩:=h4;exact DataW.trod_lt m _ _ _ hm
 obtain⟨YU,YV,YW,YX,rfl⟩:=sQ (λ_=>hval 0 23 v0 rfl rfl) h0
 obtain⟨pa3,abv,abw,z3,rfl,hle3,hN3,hb3⟩:=vX h3 (okWide_slice Tryz.underlying24 (hval 3 24 v3 rfl rfl)) hsz (j:=3) rfl rfl
 obtain⟨n1,rfl,rfl,rfl,w1⟩:=open_int Tryz.underlying3 (hval 1 3 v1 rfl rfl) h1
 obtain⟨n2,rfl,rfl,rfl,w2⟩:=open_int Tryz.underlying3 (hval 2 3 v2 rfl rfl) h2
 obtain⟨n4,rfl,rfl,rfl,w4⟩:=open_int Tryz.underlying3 (hval 4 3 v4 rfl rfl) h4
 clear hA0 hval0
 obtain⟨M,last,o,w',t',e1,e2,e3,e4⟩:=Gt hs hle3 hN3 hb3 (bounds_i64 w4)
 refine⟨M,last,o,w',t',e1,e2,e3,e4.mono λv hv=>?_⟩
 obtain⟨rfl,bU⟩:=hv
 exact⟨_,_,_,[],_,[],hW',trodAll_mk1 (shut_bool Tryz.underlying4 _),(trodAll_cons_mk (Below.trod sP (by kernel_rfl) (of_decide_eq_true (by kernel_rfl)) h0 bU YT) (trodAll_cons_mk (shut_int Tryz.underlying3 w1) (trodAll_cons_mk (shut_int Tryz.underlying3 w2) (trodAll_cons_mk (Below.trod sP (by kernel_rfl) (of_decide_eq_true (by kernel_rfl)) h3 bU lt3) (trodAll_cons_mk (shut_int Tryz.underlying3 w4) trodAll_mk0))))),rfl,bU.frame _,λh=>by cases h⟩
theorem diskTrims_holds:Rows.DiskTrimsSaid :=
 OpenClaim.holds_of_wide_leaving 4 Tryz.f4 rfl rfl rfl rfl rfl rfl rfl ⟨rfl,rfl,rfl,rfl,rfl⟩ rfl rfl rfl rfl rfl (by kernel_rfl) Tryz.func4 (by kernel_rfl)
  (of_decide_eq_true (by kernel_rfl)) (by unfold Func.isWrapper;first|(rw[if_pos (by decide +kernel)];kernel_rfl)|(rw[if_neg (by decide +kernel)];exact⟨rfl,rfl⟩))
  (λos started H enc _=>xP os started H enc)
#print axioms diskTrims_holds

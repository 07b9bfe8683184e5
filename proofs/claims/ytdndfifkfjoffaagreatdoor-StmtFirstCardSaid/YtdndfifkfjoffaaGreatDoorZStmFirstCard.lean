/- StmtFirst answers true for all two texts that a machine can hold: where package word's and unicode/utf8's listed tables are as the project's text, and Go's, lay them. -/
import Derived.Test.YtdndfifkfjoffaaGreatDoorZbp
import Derived.Test.YtdndfifkfjoffaaGreatDoorZbq
import Derived.Test.YtdndfifkfjoffaaGreatDoorZaa
set_option maxRecDepth 100000
set_option maxHeartbeats 4000000
namespace Go.Proofs.YtdndfifkfjoffaaGreatDoor.pm.cs
open Go.ChangeShapes Go.WideShapes Go.ChangeAt Go.RowKit
open Go.ChangeMaps (open_string shut_string)
theorem qfe(H:Type)(enc:TypeId × Value→H)(W:World)(base:Nat)(args:Array Value)(ds gs:List (DataW H))(before:List MemPlace)
   (hval:∀(j:Nat) t v,Tryz.f4.params[j]?=some t→args[j]?=some v→Value.okWide Tryz.prog W .any base t v)
   (hW:DataW.Whole enc Tryz.prog Tryz.f4.params.toList Rows.stmtFirstSpec.vars false W args.toList ds gs before)(hL:laidMetH Tryz.prog Rows.stmtFirstRow.laid W)
   (hreach:(DataW.weightsEach Tryz.prog (Tryz.f4.params.toList++(OpenSpec.ofChange Rows.stmtFirstSpec).bare.plain.varTypes Tryz.prog) (ds++gs)).all (·≤reachBytes)=true):
   Calls Tryz.prog 4 args W fun e W'=>∃v,e=.returned v∧Rows.stmtFirstSpec.post enc Tryz.prog Tryz.f4 false true false false W args v W':=by
 have hW':=hW;obtain⟨p,q,hA0,hV,rfl,hfz,hnd⟩:=hW;have hA:DataW.TrodAll enc Tryz.prog W 0 (fun _=>true) true Tryz.f4.params.toList args.toList ds p:=hA0;rw[Tryz.params4]at hA hval;obtain⟨v0,vs0,d0,ds0,p0,q0,hargs,rfl,rfl,h0,r0⟩:=trodAll_cons hA;obtain⟨v1,vs1,d1,ds1,p1,q1,rfl,rfl,rfl,h1,r1⟩:=trodAll_cons r0;obtain⟨rfl,rfl,rfl⟩:=trodAll_nil r1;obtain rfl:args=#[v0,v1]:=by cases args;simp_all
 obtain⟨rfl,rfl⟩:=trodVars_none hV;obtain⟨s0,rfl,rfl,rfl,w0⟩:=open_string Tryz.underlying9 (hval 0 9 v0 rfl rfl) h0;obtain⟨s1,rfl,rfl,rfl,w1⟩:=open_string Tryz.underlying9 (hval 1 9 v1 rfl rfl) h1
 have z0:s0.size≤281474976710656:=by
   have hr:=hreach;rw[Tryz.params4]at hr;have h:=sized_string hr (j:=0) (t:=9) rfl rfl;have h2:=reachBytes_lt;have e1:s0.size=s0.data.size:=rfl;have e2:s0.data.toList.length=s0.data.size:=Array.length_toList;omega
 have z1:s1.size≤281474976710656:=by
   have hr:=hreach;rw[Tryz.params4]at hr;have h:=sized_string hr (j:=1) (t:=9) rfl rfl;have h2:=reachBytes_lt;have e1:s1.size=s1.data.size:=rfl;have e2:s1.data.toList.length=s1.data.size:=Array.length_toList;omega
 clear hA0;simp only[List.append_nil,List.nil_append]at hW';refine(qki s0 s1 W (by omega) (by omega) (qnu hL)).mono fun e W' ⟨he,hg⟩=>?_;subst he;refine⟨_,rfl,_,_,_,[],[],[],hW',?_,?_,rfl,hg.frame _,fun h=>by cases h⟩
 · exact trodAll_mk1 (shut_bool Tryz.underlying4 _)
 · exact trodAll_mk2 (shut_string Tryz.underlying9 w0) (shut_string Tryz.underlying9 w1)
theorem qhE(os:Os){H:Type}(enc:TypeId × Value→H):∃places,DataW.whole enc Tryz.prog ((World.laidAll Tryz.prog os qdJ).forCall (fun _ _=>0) ⟨#[],#[.string ⟨#[]⟩,.string ⟨#[]⟩],[]⟩).memory Tryz.f4.params.toList Rows.stmtFirstSpec.vars false #[Value.string ⟨#[]⟩,.string ⟨#[]⟩].toList 8=some ([.lit (.string []),.lit (.string [])],[],places):=
 ⟨[],by kernel_rfl⟩
theorem qgx(os:Os)(started:os.Started)(H:Type)(enc:TypeId × Value→H)(F:Stop.Interp):
   ReturnsInHanded {} Tryz.checked os 4 .any ((OpenSpec.ofChange Rows.stmtFirstSpec).preRow enc Tryz.prog Tryz.f4 Rows.stmtFirstRow.domain false Rows.stmtFirstRow.laid) (((OpenSpec.ofChange Rows.stmtFirstSpec).at F).post enc Tryz.prog Tryz.f4 false true false false):=by
 obtain⟨places,hx⟩:=qhE os enc
 refine returnsInHanded_of_row (C:=Tryz.checked) (s:=OpenSpec.ofChange Rows.stmtFirstSpec) own started (by kernel_rfl) Tryz.func4
   (witness_row_atRef (enc:=enc) (C:=Tryz.checked) false (World.laidAll Tryz.prog os qdJ) #[.string ⟨#[]⟩,.string ⟨#[]⟩] (World.laidAll_os _ _ _) (by kernel_rfl) (by kernel_rfl) (by kernel_rfl)
     (OpenSpec.preRow_of_cond 8 hx (by kernel_rfl) (fun k hk=>by cases hk) (by kernel_rfl) (qlF os _))) ?_
 intro W base args ds gs before hval hW _ _ hreach hL _ _;exact qfe H enc W base args ds gs before hval hW hL hreach
theorem qiL:Rows.StmtFirstSaid:=
 OpenClaim.holds_of_cond 4 Tryz.f4 rfl rfl rfl rfl rfl rfl rfl ⟨rfl,rfl,rfl,rfl,rfl⟩ rfl rfl rfl rfl rfl (by kernel_rfl) Tryz.func4 (by kernel_rfl)
   (of_decide_eq_true (by kernel_rfl)) (by unfold Func.isWrapper;rw[if_neg (of_decide_eq_false (by kernel_rfl))];exact⟨rfl,rfl⟩)
   (fun os started H enc _ F=>by rw[OpenClaim.pre_eq_preRow];exact qgx os started H enc F)
theorem qhD(f:FuncId)(fn:Func)(hf:Tryz.pinned.checked.prog.funcNamed "marline/marlinelaw14.StmtFirst" =some f)(hfn:Tryz.pinned.checked.prog.funcs[f]?=some fn):
   true=Tryz.pinned.checked.prog.looks []∧∀(j:Nat) t,fn.params[j]?=some t→Tryz.pinned.checked.prog.wantsStandIn t=false:=by
 obtain rfl:f=4:=Option.some.inj ((show Tryz.prog.funcNamed "marline/marlinelaw14.StmtFirst" =some 4 by kernel_rfl).symm.trans hf)|>.symm
 obtain rfl:fn=Tryz.f4:=(Option.some.inj (Tryz.func4.symm.trans hfn)).symm;refine⟨by kernel_rfl,fun j t ht=>?_⟩;rw[Tryz.params4]at ht;have hm:t∈[9,9]:=by simpa using Array.mem_of_getElem? ht
 have hall:([9,9].all fun u=>!Tryz.prog.wantsStandIn u)=true:=by kernel_rfl
 exact(show Tryz.prog.wantsStandIn t=false by simpa using List.all_eq_true.1 hall t hm)
theorem first_card:Rows.StmtFirstCardSaid:=
 Claim7.holds_tied_plain_at .later [] _ _ _ _ qiL (fun _ h=>by cases h) (by kernel_rfl) (fun _ h=>by cases h) stmtFirst_row_tie rfl ⟨rfl,rfl⟩ (by kernel_rfl) rfl qhD (by kernel_rfl)
end Go.Proofs.YtdndfifkfjoffaaGreatDoor.pm.cs

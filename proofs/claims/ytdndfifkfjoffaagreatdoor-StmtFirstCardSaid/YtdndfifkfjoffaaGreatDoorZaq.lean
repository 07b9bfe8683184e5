/- The package's reader reads a fork, what is made anew, and what an expression begins with. (and what it stands on) -/
import Derived.RangeFuncFrom
import Derived.RangeFuncWrites
import Derived.Deep.LoopGhost
import Derived.Test.YtdndfifkfjoffaaGreatDoorZap
import Derived.Test.YtdndfifkfjoffaaGreatDoorZaa
set_option maxRecDepth 100000
set_option maxHeartbeats 4000000
namespace Go.Proofs.YtdndfifkfjoffaaGreatDoor.pm.em
open Go.RowKit Go.Shelf wd lx nt ne pm mem
open vt (I64 qft qt qv qZ qee Typ qc6)
variable{l:List Tk}{v:Value}{w0:World}{rb:Nat}{A A':Nat→Prop}{i j:Int}{wants over:Bool}{rs:List NT}{G:List Frm}{w w':World}
attribute [local go_sem] Oper.semAt_some
theorem qoH:(Tryz.prog.info? 3).map (fun i=>(i.zero,i.size,i.bytes))=some (some (.int .i64 0),1,8):=by kernel_rfl
theorem qmY{w1 w2:World}{b:Nat}(h:Up A w w2 b):Up (Up A w w1) w1 w2 b:=by
 rcases h with h|h
 · exact Or.inl (Or.inl h)
 · by_cases hb:b<w1.heap.size
   · exact Or.inl (Or.inr ⟨h.1,hb⟩)
   · exact Or.inr ⟨by omega,h.2⟩
theorem Rd.only(h:Rd l v w0 rb A i wants over rs G w)(ho:qfM rb w w'):qF A w w':=fun b q=>ho b (h.ap b q).2.1 (h.ap b q).2.2
theorem qaB(t:Tk)(w:World):(Instr.field 40 (.agg #[.int .i64 t.kind,.int .i64 t.at_,.int .i64 t.n,.string ⟨t.text.toArray⟩]) 1).run Tryz.prog w=.ok (.int .i64 t.at_) w:=by kernel_rfl
theorem qja{t:Tk}{n:NT}(h:qbI t=some n)(ha:I64 t.at_)(hs:t.text.length≤281474976710656):n.kids=[]∧Hd n∧t.kind≠0:=by
 have hk:=qfz h;have h1:∀k:Int,1≤k→k≤4→I64 k:=fun k _ _=>by unfold I64;omega
 have h0:I64 (0:Int):=by unfold I64;omega
 refine⟨?_,?_,by omega⟩
 · unfold qbI at h
   repeat' split at h
   all_goals first|(cases h;done)|(injection h with h;rw[←h];rfl)
 · unfold qbI at h
   repeat' split at h
   all_goals first|(cases h;done)|(injection h with h;rw[←h];first|exact⟨h1 1 (by decide) (by decide),ha,h0,(by show 0≤281474976710656;decide)⟩|exact⟨h1 2 (by decide) (by decide),ha,h0,(by show 0≤281474976710656;decide)⟩|exact⟨h1 3 (by decide) (by decide),ha,h0,(by show 0≤281474976710656;decide)⟩|exact⟨h1 4 (by decide) (by decide),ha,h0,hs⟩)
def TyP(l:List Tk)(v:Value)(w0:World)(rb:Nat)(A:Nat→Prop)(wants over:Bool)(rs:List NT)(G:List Frm)(w:World)(r:Res)(e:Ending)(w':World):Prop:=
 match r with
 |.node n j=>∃s,e=.returned (.tuple #[.agg #[.int .i64 n.kind,.int .i64 n.at_,.int .i64 n.num,.string ⟨n.name.toArray⟩,s],.bool true])∧nt.ql (fun b=>w.heap.size≤b∧b<w'.heap.size) w' n.kids s∧Hd n∧Rd l v w0 rb (Up A w w') j wants over rs G w'∧qF A w w'∧w.heap.size≤w'.heap.size
 |.no j=>e=.returned (.tuple #[.agg ZZ,.bool false])∧Rd l v w0 rb (Up A w w') j wants over rs G w'∧qF A w w'
 |.list _ _=>False
theorem qmX{R:Nat}{x y z u q a b c d e:Value}(h:Rd l v w0 rb A i wants over rs G w)(m:Mv v rb wants over i j w w')(low:Below w0.heap.size w0 w')(hj:I64 j)(hRr:¬R=rb)(hR:w.heap.size≤R)(hb:Box w' R qi #[x,y,z,u,q]):
   Rd l v w0 rb (Up A w (five w' R a b c d e)) j wants over rs G (five w' R a b c d e)∧qF A w (five w' R a b c d e):=by
 have hw:w0.heap.size≤R:=Nat.le_trans h.low.size hR
 have h5:∀k,k≠R→(five w' R a b c d e).heap[k]?=w'.heap[k]?:=fun k hk=>by
   unfold five;rw[Below.heap_setCell _ ⟨R,4,none⟩ _ k hk,Below.heap_setCell _ ⟨R,3,none⟩ _ k hk,Below.heap_setCell _ ⟨R,2,none⟩ _ k hk,Below.heap_setCell _ ⟨R,1,none⟩ _ k hk,Below.heap_setCell _ ⟨R,0,none⟩ _ k hk]
 have hm:Mv v rb wants over i j w (five w' R a b c d e):=⟨fun k hk hn=>(h5 k (by omega)).trans (m.1 k hk hn),by have:=m.2.1;unfold five;simpa [World.setCell]using this,fun vr vo q=>(h5 rb (fun e=>hRr e.symm)).trans (m.2.2 vr vo q)⟩;exact⟨h.moved hm (qm low hw _ _ _ _ _) hj,h.only hm.1⟩
def qaS(n0:NT)(pre:List (Nat × TI)):NT:=pre.foldl (fun n x=>.mk 5 x.2.1 0 [] [n]) n0
theorem qeG(n0:NT)(pre:List (Nat × TI))(x:Nat × TI):qaS n0 (pre++[x])=.mk 5 x.2.1 0 [] [qaS n0 pre]:=by simp[qaS]
theorem qi4(n0:NT)(pre:List (Nat × TI)):qaS n0 pre=(pre.map (·.2)).foldl (fun n (x:TI)=>.mk 5 x.1 0 [] [n]) n0:=by simp[qaS,List.foldl_map]
theorem qi3(n0:NT)(zs:List TI):qaS n0 (qdV zs zs.length zs.length)=qei (zs.map (·.1)) n0:=by
 rw[qi4,qlE,List.foldl_reverse];unfold qei;rw[List.foldr_map]
theorem qga{n0:NT}(h:Hd n0)(pre:List (Nat × TI)):Hd (qaS n0 pre):=by
 rcases List.eq_nil_or_concat pre with rfl|⟨q,x,rfl⟩
 · exact h
 · rw[List.concat_eq_append,qeG];exact⟨by show I64 5;unfold I64;omega,x.2.2,by show I64 0;unfold I64;omega,by show 0≤281474976710656;omega⟩
theorem qkH{n:NT}{N:Nat}{A B:World}{row:Option Nat}(hs:∃s,Box A N qi #[.int .i64 n.kind,.int .i64 n.at_,.int .i64 n.num,.string ⟨n.name.toArray⟩,s]∧nt.ql (fun b=>N<b) A n.kids s)(hg:A.grownBy B row)(hr:∀r,row=some r→∃o:Obj,A.heap[r]?=some o∧o.isCells=false):
   ∃s,Box B N qi #[.int .i64 n.kind,.int .i64 n.at_,.int .i64 n.num,.string ⟨n.name.toArray⟩,s]∧nt.ql (fun b=>N<b) B n.kids s:=by
 obtain⟨s,hb,hk⟩:=hs;refine⟨s,(hg.block N hb.lt fun e=>?_).trans hb,hk.carry fun b o u q hc=>⟨q,cell_kept hc hg hr⟩⟩;obtain⟨o,ho,hc⟩:=hr N e.symm;rw[show A.heap[N]?=_ from hb]at ho;injection ho with ho
 rw[←ho]at hc;cases hc
theorem qmb(n0:NT)(N:Nat):_root_.Go.Own (fun(pre:List (Nat × TI)) (W:World)=>∃s,Box W N qi #[.int .i64 (qaS n0 pre).kind,.int .i64 (qaS n0 pre).at_,.int .i64 (qaS n0 pre).num,.string ⟨(qaS n0 pre).name.toArray⟩,s]∧nt.ql (fun b=>N<b) W (qaS n0 pre).kids s):=fun _ _ _ _ hs hg hr=>qkH hs hg hr
theorem qjf{n:NT}{N:Nat}{a:Int}{s:Value}{W X W7:World}(hN:N<W.heap.size)(hd:Hd n)(ha:I64 a)(hb:Box W N qi #[.int .i64 n.kind,.int .i64 n.at_,.int .i64 n.num,.string ⟨n.name.toArray⟩,s])(hk:nt.ql (fun b=>N<b) W n.kids s)(hB:Below N W7 W)(hX:X=(five W N (.int .i64 5) (.int .i64 a) (.int .i64 0) (.string ⟨#[]⟩) (.slice (some ⟨W.heap.size,0,none⟩) 1 1)).alloc (.cells #[.int .i64 n.kind,.int .i64 n.at_,.int .i64 n.num,.string ⟨n.name.toArray⟩,s] qi)):
   KeepsOthers W X∧qaH W X∧(∃s',Box X N qi #[.int .i64 5,.int .i64 a,.int .i64 0,.string ⟨#[]⟩,s']∧nt.ql (fun b=>N<b) X [n] s')∧Below N W7 X:=by
 have hz:(five W N (.int .i64 5) (.int .i64 a) (.int .i64 0) (.string ⟨#[]⟩) (.slice (some ⟨W.heap.size,0,none⟩) 1 1)).heap.size=W.heap.size:=by unfold five;simp[World.setCell]
 have b0:Box (W.setCell ⟨N,0,none⟩ (.int .i64 5)) N qi _:=hb.set 0 _;have b1:=b0.set 1 (.int .i64 a);have b2:=b1.set 2 (.int .i64 0);have b3:=b2.set 3 (.string ⟨#[]⟩);subst hX;refine⟨(((((KeepsOthers.setCell _ _ _).trans (KeepsOthers.setCell _ _ _)).trans (KeepsOthers.setCell _ _ _)).trans (KeepsOthers.setCell _ _ _)).trans (KeepsOthers.setCell _ _ _)).trans (KeepsOthers.alloc _ _),?_,⟨_,(qj hb _ _ _ _ _).alloc _,?_⟩,?_⟩
 · exact(((((qaH.set hb 0 _).trans (qaH.set b0 1 _)).trans (qaH.set b1 2 _)).trans (qaH.set b2 3 _)).trans (qaH.set b3 4 _)).trans (qaH.below (qd.alloc qe _) qe)
 · exact qcC hz.symm hd (qab hk (fun b q=>by omega) _ _ _ _ _) hN
 · exact(qm hB qe _ _ _ _ _).alloc (by rw[hz];omega) _
def qju(l:List Tk)(v:Value)(w0:World)(rb:Nat)(A:Nat→Prop)(i:Int)(wants over:Bool)(rs:List NT)(G:List Frm)(w:World)(g:Nat)(va vat:Value)(wr:World):Prop:=
 ∃(ats:List TI) (p:Int),vat=.int .i64 (qh l p).at_∧Hid (wr.ownsRow w.heap.size 3 1 va ats.length (tiV ats))∧Hid (qaV l i=qcJ (ats.map (·.1)) (qaV l p))∧Hid (Rd l v w0 rb (Up A w wr) p wants over rs G wr)∧Hid (Mv v rb wants over i p w wr)∧Hid (Box wr w.heap.size qi #[.int .i64 0,.int .i64 0,.int .i64 0,.string ⟨#[]⟩,.slice none 0 0])∧ats.length+g=1048577∧Hid ((ats=[]∧p=i)∨(0≤i∧p=i+2*ats.length∧p≤(l.length:Int)))∧Hid (w.heap.size≤wr.heap.size)
theorem qez(h:Rd l v w0 rb A i wants over rs G w):
   Calls Tryz.prog 137 #[.pointer (some ⟨rb,0,none⟩)] w (TyP l v w0 rb A wants over rs G w (qaV l i)):=by
 obtain⟨P,hP⟩:=qc (TyP l v w0 rb A wants over rs G w (qaV l i));rw[←hP];obtain⟨R,hR⟩:=qc w.heap.size;obtain⟨W,hW⟩:=qc (w.alloc (.cells #[.int .i64 0,.int .i64 0,.int .i64 0,.string ⟨#[]⟩,.slice none 0 0] qi));have hbW:Below w.heap.size w W:=by rw[hW];exact qd.alloc qe _
 have bR:Box W R qi #[.int .i64 0,.int .i64 0,.int .i64 0,.string ⟨#[]⟩,.slice none 0 0]:=by rw[hW];exact Box.new _ _ _ _ hR
 have hrR:¬rb=R:=by have:=h.lt;omega
 have hRr:¬R=rb:=fun e=>hrR e.symm;have HC:=qb (qs (h.on_ hbW));have HA:=qb h;have HAW:=qb (h.on hbW);have HBR:=qb bR;have HPP:=qb hP;have HW:=qb hW;have HRR:=qb hR;have HBW:=qb hbW;have HLEN:=qb h.env.src.len;have HFAIR:=qb h.env.src.fair;have HF:=qb (fun p w'=>qaB (qh l p) w');obtain⟨i0,hi,hz0,hz1,hz2⟩:=info_parts qoH;clear hP hR hW hbW bR h;have hf:Fence.wide.fn 137:=trivial;refine(callsIn_wide (n:=9)).1 ?_;refine callsIn_of_wp_marks Tryz.func137 rfl hf ?_ rfl;simp only[Tryz.ntmps137,List.size_toArray,List.length_cons,List.length_nil,Nat.reduceAdd,Nat.reduceSub,Array.replicate_succ,Array.replicate_zero,List.push_toArray,List.append_toArray,List.nil_append,List.cons_append];refine wpIn_wide.2 ?_;go_wp2_with (first|(rw[←HW.out,←HRR.out]));refine HC.out.mono ?_;rintro e w1 ⟨rfl,hb1⟩;have hR1:=(HAW.out.on hb1).mono (A':=Up A w w1) fun b q=>qmY q;have HK1:Hid (Mv v rb wants over i i w w1):=qb (Mv.of (HBW.out.trans (hb1.mono HBW.out.size)) i);have HR1:=qb hR1;have HBR1:=qb (HBR.out.on hb1);have HZ1:Hid (w.heap.size≤w1.heap.size):=qb (Nat.le_trans HBW.out.size hb1.size);have hfi:=fun w'=>HF.out i w';unfold tkA;clear hb1 hR1;go_wp2_with fail;clear hfi
 go_loopg [4,5] 1048577 (fun g va vat wr=>qju l v w0 rb A i wants over rs G w g va vat wr)
 case atStart=>
   unfold qju;exact⟨[],i,rfl,qb (World.ownsRow_nil _ _ _ _),qb rfl,HR1,HK1,by rw[←HRR.out];exact HBR1,by simp,qb (Or.inl ⟨rfl,rfl⟩),HZ1⟩
 case round=>
   unfold qju at hrel;obtain⟨ats,p,rfl,HO,HE,HRd,HK,HBx,hg,HPos,HZ⟩:=hrel;rw[←HRR.out]at HBx;obtain⟨Av,cv,rfl⟩:=qt HO.out;obtain⟨K,hKl⟩:=qc ats.length;rw[←hKl]at hg ⊢;have HKL:=qb hKl
   have hKb:K≤1048576∧(K=1048576→isM l p [91]=false):=by
     have hlen:=HLEN.out;rcases HPos.out with⟨e,_⟩|⟨e1,e2,e3⟩
     · subst e;exact⟨by simp at hKl;omega,fun h=>by simp at hKl;omega⟩
     · exact⟨by omega,fun h=>by omega⟩
   clear hKl
   cases h1:isM l p [91]with
   |true=>
     have hin:=qu h1;have hlen:=HLEN.out;have HM1:=qb h1;have HT1:=qb (qdQ [91] HRd.out h1);have HRrow:Hid (∀w',qfM rb wr w'→w'.ownsRow w.heap.size 3 1 (.slice Av K cv) K (tiV ats)):=qb fun w' ho=>qZ (by have:=HO.out;rw[←HKL.out]at this;exact this) fun k hk=>ho k (HO.out.lt k (by rw[←HKL.out];exact hk)).2 (by have:=(HO.out.lt k (by rw[←HKL.out];exact hk)).1;have:=HA.out.lt;omega)
     cases h2:isM l (p+1) [93]with
     |false=>
       have HM2:=qb h2;have HJ:Hid (I64 (p+1)):=qb (by unfold I64;omega);have HEN:Hid (qaV l i=.no (p+1)):=qb (by rw[HE.out,qio h1 h2,qeB]);clear h1 h2 hin hlen hKb;go_wp2_with fail;refine HT1.out.mono ?_;rintro e w2 ⟨rfl,hr2,ho2,hx2⟩;have HT2:=qb (qM [93] hr2 HM2.out);have HR2:=qb hr2;have HB2:=qb (ho2.box HBx.out hRr);have HV2:Hid (Mv v rb wants over i (p+1) w w2):=qb (HK.out.trans hx2);clear hr2 ho2 hx2;go_wp2_with fail;refine HT2.out.mono ?_;rintro e w3 ⟨rfl,hb3⟩;have hB3:=HB2.out.on hb3;have HB3:=qb hB3;have HL3:=qb (HR2.out.on hb3).low;have HV3:Hid (Mv v rb wants over i (p+1) w w3):=qb (HV2.out.trans (Mv.of hb3 _));have r0:=hB3.cell 0;have r1:=hB3.cell 1;have r2:=hB3.cell 2;have r3:=hB3.cell 3;have r4:=hB3.cell 4;have g0:=hB3.frozen 0;have g1:=hB3.frozen 1;have g2:=hB3.frozen 2;have g3:=hB3.frozen 3;have g4:=hB3.frozen 4;simp only[qg]at r0 r1 r2 r3 r4;clear hB3 hb3;go_wp2_with fail;refine⟨_,qk rfl rfl rfl (qj HB3.out _ _ _ _ _),?_⟩;rw[HPP.out,HEN.out]
       exact⟨rfl,qmX HA.out HV3.out HL3.out HJ.out hRr (by rw[HRR.out];exact Nat.le_refl _) HB3.out⟩
     |true=>
       have HM2:=qb h2;have HPE:Hid ((qh l p).kind=4):=qb (qdj h1);have hin2:=qu h2;have HE2:Hid (∀x:TI,x.1=(qh l p).at_→qaV l i=qcJ ((ats++[x]).map (·.1)) (qaV l (p+2))):=qb fun x hx=>by rw[List.map_append,List.map_cons,List.map_nil,qir,hx,←qin h1 h2];exact HE.out
       have HPos2:Hid (∀x:TI,(ats++[x]=[]∧p+2=i)∨(0≤i∧p+2=i+2*((ats++[x]).length:Int)∧p+2≤(l.length:Int))):=qb fun x=>Or.inr (by
         rw[List.length_append];rcases HPos.out with⟨e,e2⟩|⟨e1,e2,e3⟩
         · subst e;simp;omega
         · simp;omega)
       have hK1:K≤1048575:=by
         rcases Nat.lt_or_ge K 1048576 with h|h
         · omega
         · have:=hKb.2 (by omega);rw[h1]at this;cases this
       obtain⟨ta,hta⟩:∃x:TI,x.1=(qh l p).at_:=⟨⟨(qh l p).at_,(HFAIR.out p).1⟩,rfl⟩;have HTA:=qb hta;obtain⟨at0,hat0⟩:=qc ((qh l p).at_);rw[←hat0]at hta ⊢;have HAT:=qb hta;clear h1 h2 hin hlen hKb hin2 hta hat0;go_wp2_with fail;refine HT1.out.mono ?_;rintro e w2 ⟨rfl,hr2,ho2,hx2⟩;have HT2:=qb (qdQ [93] hr2 HM2.out);have HB2:=qb (ho2.box HBx.out hRr);have HV2:Hid (Mv v rb wants over i (p+1) w w2):=qb (HK.out.trans hx2);have HRw2:=qb (HRrow.out w2 ho2);clear hr2 ho2 hx2;go_wp2_with fail;refine HT2.out.mono ?_;rintro e w3 ⟨rfl,hr3,ho3,hx3⟩;have hB3:=HB2.out;have HB3:=qb (ho3.box HB2.out hRr);have HV3:Hid (Mv v rb wants over i (p+1+1) w w3):=qb (HV2.out.trans hx3);have hrow3:w3.ownsRow w.heap.size 3 1 (.slice Av K cv) K (tiV ats):=qZ HRw2.out fun k hk=>ho3 k (HRw2.out.lt k hk).2 (by have:=(HRw2.out.lt k hk).1;have:=HA.out.lt;omega);have HR3:=qb hr3;have hBs:w.heap.size≤w3.heap.size:=HV3.out.2.1;have h1c:∀u∈[Value.int .i64 at0],u.oneCell'=true:=by intro u hu;simp at hu;subst hu;rfl
       have HH1:=qb h1c;have HRW3:=qb hrow3;have HBS:=qb hBs;clear hr3 ho3 hx3 hB3 hrow3 hBs h1c;go_wp2_with (at_builtin;refine wpList_append_own _ rfl _ _ 126 rfl w.heap.size 3 i0 (.int .i64 0) 1 8 Tryz.underlying126 hi hz0 hz1 hz2 rfl (by decide) (.slice Av K cv) K (tiV ats) rfl (HRW3.out.alloc _) ⟨w3.heap.size,0,none⟩ 1 1 [.int .i64 at0] rfl rfl (qjE _ _ _) HH1.out (by unfold maxLen;omega) (by omega) (by simp;have:=HBS.out;omega) ?_;intro v' w4 hown hgrow _;obtain⟨A4,c4,rfl⟩:=qt hown;have HOW:=qb hown;have HGR:=qb hgrow;clear hown hgrow)
       have hkeep4:∀k,k<w3.heap.size→k<w.heap.size∨k=R→w4.heap[k]?=w3.heap[k]?:=fun k hk hk2=>(HGR.out.block k (by simp;omega) (fun e=>by
         rcases hk2 with hk2|hk2
         · have:=(HRW3.out.lt k e.symm).1;omega
         · have h1:=Typ.own HRW3.out e.symm;rw[hk2]at h1;exact h1.ne (⟨_,_,HB3.out⟩:Typ w3 qi R) (by decide) rfl)).trans (Below.heap_alloc _ _ k hk)
       have hz4:w3.heap.size≤w4.heap.size:=by have:=HGR.out.size;simp at this;omega
       have hws:=HV3.out.2.1
       have HV4:Hid (Mv v rb wants over i (p+2) w w4):=qb ⟨fun k hk hn=>(hkeep4 k (by omega) (Or.inl hk)).trans (HV3.out.1 k hk hn),by omega,fun vr vo q=>by
         have q3:=HV3.out.2.2 vr vo q;rw[show p+1+1=p+2 by omega]at q3;exact(hkeep4 rb q3.lt (Or.inl q.lt)).trans q3⟩
       have hl4:Below w0.heap.size w0 w4:=(HR3.out.low.alloc (by have:=HR3.out.low.size;omega) _).grown HGR.out (by simp;have:=HR3.out.low.size;omega) (fun k hk=>by have:=(HRW3.out.lt k hk).1;have:=HA.out.low.size;omega);have hr4:=HA.out.moved HV4.out hl4 (by have:=HR3.out.num;rw[show p+1+1=p+2 by omega]at this;exact this);have HR4:=qb hr4;have HT4:=qb (qs hr4);have HB4:Hid (Box w4 R qi _):=qb ((hkeep4 R HB3.out.lt (Or.inr rfl)).trans HB3.out);have hfi:=fun w'=>HF.out (p+2) w';have HGK:Hid (∃g2,gk=g2+1):=qb ⟨gk-1,by omega⟩;clear hkeep4 hz4 hws hl4 hr4;refine HT4.out.mono ?_;rintro e w5 ⟨rfl,hb5⟩;unfold tkA;have HB5:=qb hb5;clear hb5;go_wp2_with fail;obtain⟨g2,hg2⟩:=HGK.out
       go_roundg g2
       case measure=>omega
       case rel=>
         unfold qju;have hb5:=HB5.out;refine⟨ats++[ta],p+2,rfl,qb ?_,qb (HE2.out ta HTA.out),qb ((HR4.out.on hb5).mono fun b q=>qmY q),qb (HV4.out.trans (Mv.of hb5 _)),?_,?_,qb (HPos2.out ta),?_⟩
         · have hw:=HOW.out;have e:tiV (ats++[ta])=tiV ats++[.int .i64 at0]:=by unfold tiV;rw[List.map_append,List.map_cons,List.map_nil,HAT.out]
           rw[e,List.length_append,List.length_cons,List.length_nil,←HKL.out];exact qv hw hb5
         · rw[←HRR.out];exact qb (HB4.out.on hb5)
         · rw[List.length_append,List.length_cons,List.length_nil,←HKL.out];omega
         · exact qb (HV4.out.trans (Mv.of hb5 _)).2.1
   |false=>
     have HM1:=qb h1;have HT1:=qb (qM [91] HRd.out h1);have HRrow:Hid (wr.ownsRow w.heap.size 3 1 (.slice Av K cv) K (tiV ats)):=qb (by have:=HO.out;rw[←HKL.out]at this;exact this);have HKB:=qb hKb;clear h1 hKb;go_wp2_with fail;refine HT1.out.mono ?_;rintro e w2 ⟨rfl,hb2⟩;have HB2:=qb hb2;have HT2:=qb (qs (HRd.out.on hb2));clear hb2;go_wp2_with fail;refine HT2.out.mono ?_;rintro e w3 ⟨rfl,hb3⟩;have HB3:Hid (Below wr.heap.size wr w3):=qb (HB2.out.trans (hb3.mono HB2.out.size));clear hb3;have HPL:=qb (qkS (qh l p) w3 ((HRd.out.on HB3.out).ldw) (fun hk=>(HA.out.env.good p).1 hk));unfold tkA at HPL ⊢
     cases hpl:qbI (qh l p)with
     |none=>
       rw[hpl]at HPL;have HEN:Hid (qaV l i=.no p):=qb (by rw[HE.out,qnV hpl HM1.out,qeB]);clear hpl;go_wp2_with fail;refine HPL.out.mono ?_;intro e w4 hpo;obtain⟨rfl,hb4⟩:=hpo;have hb4':Below wr.heap.size wr w4:=HB3.out.trans (hb4.mono HB3.out.size);have hB4:=HBx.out.on hb4';have HB4:=qb hB4;have HL4:Hid (Below w0.heap.size w0 w4):=qb (HRd.out.on hb4').low;have HV4:Hid (Mv v rb wants over i p w w4):=qb (HK.out.trans (Mv.of hb4' _));have HJ:=qb HRd.out.num;have hRz:R<w4.heap.size:=hB4.lt;have r0:=hB4.cell 0;have r1:=hB4.cell 1;have r2:=hB4.cell 2;have r3:=hB4.cell 3;have r4:=hB4.cell 4;have g0:=hB4.frozen 0;have g1:=hB4.frozen 1;have g2:=hB4.frozen 2;have g3:=hB4.frozen 3;have g4:=hB4.frozen 4;simp only[qg]at r0 r1 r2 r3 r4;clear hB4 hb4 hb4';go_wp2_with fail;refine⟨_,qk rfl rfl rfl ((qj HB4.out _ _ _ _ _).alloc _),?_⟩;rw[HPP.out,HEN.out];obtain⟨e1,e2⟩:=qmX (a:=.int .i64 0) (b:=.int .i64 0) (c:=.int .i64 0) (d:=.string ⟨#[]⟩) (e:=.slice none 0 0) HA.out HV4.out HL4.out HJ.out hRr (by rw[HRR.out];exact Nat.le_refl _) HB4.out;have hba:=(Below.refl _ (five w4 R (.int .i64 0) (.int .i64 0) (.int .i64 0) (.string ⟨#[]⟩) (.slice none 0 0))).alloc qe (.cells #[.int .i64 0,.int .i64 0,.int .i64 0,.string ⟨#[]⟩,.slice none 0 0] qi)
       exact⟨rfl,(e1.on hba).mono fun b q=>qmY q,e2.trans fun b q=>hba.block b (e1.ap b (Or.inl q)).2.1⟩
     |some n0=>
       rw[hpl]at HPL;obtain⟨hk0,hd0,hin0⟩:=qja hpl (HFAIR.out p).1 (by have:=(HFAIR.out p).2.2;omega);have hin0:=qC hin0;have HEN:Hid (qaV l i=.node (qei (ats.map (·.1)) n0) (p+1)):=qb (by rw[HE.out,qle hpl,qeJ]);have HN0:=qb (And.intro hk0 hd0);have hlen:=HLEN.out;have hx:IntKind.i64.wrap (p+1)=p+1:=IntWalk.i64_in _ (by omega);have HJ:Hid (I64 (p+1)):=qb (by unfold I64;omega);obtain⟨nk,na,nn,nm,nks⟩:=n0;have hk0':nks=[]:=hk0;subst hk0';clear hpl hk0 hd0 hin0 hlen;go_wp2_with fail;refine HPL.out.mono ?_;intro e w4 hpo;obtain⟨rfl,hb4⟩:=hpo;have hb4':Below wr.heap.size wr w4:=HB3.out.trans (hb4.mono HB3.out.size);obtain⟨vr,vo,vs,⟨_,c1,_⟩,hf,hbx,_⟩:=(HRd.out.on hb4').cells;have f1:=hf 1;have hrz:rb<w4.heap.size:=hbx.lt;have HB4':=qb hb4';clear hf hbx hb4 hb4'
       dsimp only[NT.kind,NT.at_,NT.num,NT.name]
       go_wp2_with fail;refine(qe8 _ _ _ _).mono ?_;rintro e w7 ⟨rfl,hw7⟩;obtain⟨N,hN⟩:=qc w4.heap.size;have HN:=qb hN;have HW7:Hid (w7=((w4.setCell ⟨rb,1,none⟩ (.int .i64 (p+1))).alloc (.cells #[.int .i64 nk,.int .i64 na,.int .i64 nn,.string ⟨nm.toArray⟩,.slice none 0 0] qi)).alloc (.cells #[.slice Av K cv] 126)):=qb hw7;have HFN:Hid ((((w4.setCell ⟨rb,1,none⟩ (.int .i64 (p+1))).alloc (.cells #[.int .i64 nk,.int .i64 na,.int .i64 nn,.string ⟨nm.toArray⟩,.slice none 0 0] 29)).heap.size=N+1)):=qb (by rw[hN];simp[World.setCell]);rw[←hN];rw[HFN.out];clear hw7 hN c1 f1;go_wp2_with fail;refine(wpIn_wide (n:=9)).1 ?_;have hb4':=HB4'.out;have hR4:=HRd.out.on hb4';have hV4:Mv v rb wants over i p w w4:=HK.out.trans (Mv.of hb4' _);have hwN:w.heap.size≤N:=by rw[HN.out];exact hV4.2.1
       have hRN:R<N:=by rw[HN.out];exact(HBx.out.on hb4').lt
       have hz7:w7.heap.size=N+2:=by rw[HW7.out,HN.out];simp[World.setCell]
       have hk7:∀k,k<N→k≠rb→w7.heap[k]?=w4.heap[k]?:=fun k hk hn=>by
         rw[HW7.out,Below.heap_alloc _ _ k (by simp[World.setCell];have:=HN.out;omega),Below.heap_alloc _ _ k (by simp[World.setCell];have:=HN.out;omega),Below.heap_setCell _ ⟨rb,1,none⟩ _ k hn]
       have HV7:Hid (Mv v rb wants over i (p+1) w w7):=qb ⟨fun k hk hn=>(hk7 k (by omega) hn).trans (hV4.1 k hk hn),by omega,fun vr vo q=>by rw[HW7.out];exact(((hV4.2.2 vr vo q).set 1 _).alloc _).alloc _⟩;have HL7:Hid (Below w0.heap.size w0 w7):=qb (by rw[HW7.out];exact((hR4.low.setCell (p:=⟨rb,1,none⟩) hR4.hB _).alloc (by simpa [World.setCell]using hR4.low.size) _).alloc (by have:=hR4.low.size;simp[World.setCell];omega) _);have bN:Box w7 N qi #[.int .i64 nk,.int .i64 na,.int .i64 nn,.string ⟨nm.toArray⟩,.slice none 0 0]:=by rw[HW7.out];exact(Box.new _ _ _ _ (by rw[HN.out];simp[World.setCell])).alloc _
       have bS:Box w7 (N+1) 126 #[.slice Av K cv]:=by rw[HW7.out];exact Box.new _ _ _ _ (by rw[HN.out];simp[World.setCell])
       have bR7:Box w7 R qi #[.int .i64 0,.int .i64 0,.int .i64 0,.string ⟨#[]⟩,.slice none 0 0]:=(hk7 R hRN hRr).trans (HBx.out.on hb4');have hrow4:=qv HRrow.out hb4'
       have hI7:qnZ w7 (.slice Av K cv) ats:=by
         rcases hrow4.2 with⟨e1,e2⟩|⟨g,cap,cur,e1,hg1,hg2,_⟩
         · exact Or.inl ⟨e1,List.eq_nil_of_length_eq_zero (by rw[←HKL.out];exact e2)⟩
         · have hgl:g<w4.heap.size:=(Array.getElem?_eq_some_iff.1 hg2).1;have hgr:g≠rb:=by have:=HA.out.lt;omega
           have h7:=hk7 g (by rw[HN.out];exact hgl) hgr;rw[e1]at hrow4 ⊢;refine Or.inr ⟨g,cap,by rw[HKL.out],⟨_,_,h7.trans hg2⟩,fun j hj=>?_⟩;rw[Nat.zero_add];refine(World.cell?_of_block (w:=w4) (w':=w7) (a:=⟨g,j,none⟩) h7).trans ?_;rw[hrow4.cellAt j (by rw[HKL.out];omega)];unfold tiV;rw[List.getElem?_map,List.getElem?_eq_getElem hj];rfl
       have hKb:ats.length≤1048576:=by rw[←HKL.out];exact HKB.out.1
       have HBN:=qb bN;have HBR7:=qb bR7;have HZ7:=qb hz7;have HwN:=qb hwN;have HRN:=qb hRN
       refine wpIn_rangeFunc_ownG rfl (by decide) (gf:=167) (lb:=#[.pointer (some ⟨N+1,0,none⟩)]) rfl trivial (enters_of Tryz.func167 (by kernel_rfl) rfl)
         (qiA 8 (by decide) (N+1) _ ats hKb w7 bS hI7) (fun h1 h2=>qaH.trans h1 h2) (fun W l o o' h1 h2 h3 h4=>qaH.put (w:=w7) W l o o' h1 h2 h3 h4) qd (fun _=>rfl)
         (fun(pre:List (Nat × TI)) (W:World)=>(∃s,Box W N qi #[.int .i64 (qaS (.mk nk na nn nm []) pre).kind,.int .i64 (qaS (.mk nk na nn nm []) pre).at_,.int .i64 (qaS (.mk nk na nn nm []) pre).num,.string ⟨(qaS (.mk nk na nn nm []) pre).name.toArray⟩,s]∧nt.ql (fun b=>N<b) W (qaS (.mk nk na nn nm []) pre).kids s)∧Below N w7 W)
         (fun _ _ _=>False)
         (OwnFrom.and (Own.from (qmb (.mk nk na nn nm []) N) _) (ownFrom_below (by omega) (by omega)))
         (fun _ _ _ _ _ hs _ _=>hs)
         ⟨⟨_,bN,nt.ql.nil_ _ _⟩,Below.refl _ _⟩
         (fun x=>{tmps:=#[.pointer (some ⟨rb,0,none⟩),undef,.pointer (some ⟨R,0,none⟩),u3,.slice Av K cv,.int .i64 (qh l p).at_,.pointer (some ⟨N,0,none⟩),.bool true,undef,.int .i64 x.2.1,.pointer (some ⟨rb,0,none⟩),.agg #[.int .i64 (qh l i).kind,.int .i64 (qh l i).at_,.int .i64 (qh l i).n,.string ⟨(qh l i).text.toArray⟩],.int .i64 (qh l i).at_,.pointer (some ⟨rb,0,none⟩),.bool false,u15,u16,u17,u18,u19,u20,u21,u22,u23,u24,u25,.tuple #[.agg #[.int .i64 nk,.int .i64 na,.int .i64 nn,.string ⟨nm.toArray⟩,.slice none 0 0],.bool true],.pointer (some ⟨rb,0,none⟩),.agg #[.int .i64 (qh l p).kind,.int .i64 (qh l p).at_,.int .i64 (qh l p).n,.string ⟨(qh l p).text.toArray⟩],.tuple #[.agg #[.int .i64 nk,.int .i64 na,.int .i64 nn,.string ⟨nm.toArray⟩,.slice none 0 0],.bool true],.agg #[.int .i64 nk,.int .i64 na,.int .i64 nn,.string ⟨nm.toArray⟩,.slice none 0 0],.bool true,.bool true,.bool false,undef,.pointer (some ⟨rb,0,none⟩),.pointer (some ⟨rb,0,none⟩),.pointer (some ⟨rb,1,none⟩),.int .i64 p,.int .i64 (p+1),.pointer (some ⟨rb,0,none⟩),.pointer (some ⟨rb,1,none⟩),.slice Av K cv,.func (.func 167) #[] #[.pointer (some ⟨N+1,0,none⟩)],.int .i64 (x.1:Int),.int .i64 x.2.1,undef,undef,undef,undef,undef],defers:=[]}) ?assign ?body ?done ?stop
       case assign=>
         intro l x W K hK
         gi_wp2
         exact hK
       case body=>
         rintro l pre x W ⟨⟨s,hb,hk⟩,hB⟩ _;obtain⟨As,cs,rfl,_⟩:=hk.form;have hNl:=hb.lt;have HS:=qb (qeG (.mk nk na nn nm []) pre x);have HD:=qb (qga HN0.out.2 pre);obtain⟨q,hq⟩:=qc (qaS (.mk nk na nn nm []) pre);rw[←hq]at hb hk HS HD;obtain⟨M9,hM9⟩:=qc q.kids.length;rw[←hM9]at hb hk;have HH:=qb (fun X hX=>qjf (X:=X) hNl HD.out x.2.2 hb hk hB hX);have n0:=hb.cell 0;have n1:=hb.cell 1;have n2:=hb.cell 2;have n3:=hb.cell 3;have n4:=hb.cell 4;have g0:=hb.frozen 0;have g1:=hb.frozen 1;have g2:=hb.frozen 2;have g3:=hb.frozen 3;have g4:=hb.frozen 4;simp only[qg]at n0 n1 n2 n3 n4;clear hq hM9 hb hk hB bN bS bR7 hrow4 hI7 hk7 hz7 hR4 hV4
         gi_wp2
         obtain⟨p1,p2,p3,p4⟩:=HH.out _ rfl;exact⟨p1.from _,p2,by rw[HS.out];exact p3,p4⟩
       case done=>
         rintro D ys W hD rfl ⟨⟨s,hb,hk⟩,hB⟩ hK;have HQ:=qb (qga HN0.out.2 (qdV ats ats.length ats.length));rw[qi3]at hb hk HQ;obtain⟨As,cs,rfl,_⟩:=hk.form;obtain⟨q,hq⟩:=qc (qei (ats.map (·.1)) (.mk nk na nn nm []));rw[←hq]at hb hk HQ HEN;have hRN':=HRN.out;have hwN':=HwN.out;have hz7':=HZ7.out;have hbR:Box W R qi _:=(hB.block R hRN').trans HBR7.out;have hDR:D≠R:=by omega
         obtain⟨M9,hM9⟩:=qc q.kids.length;rw[←hM9]at hb hk
         have hK5:(five W R (.int .i64 q.kind) (.int .i64 q.at_) (.int .i64 q.num) (.string ⟨q.name.toArray⟩) (.slice As M9 cs)).heap[D]?=some (.deferred (some [])):=by
           unfold five;rw[Below.heap_setCell _ ⟨R,4,none⟩ _ D hDR,Below.heap_setCell _ ⟨R,3,none⟩ _ D hDR,Below.heap_setCell _ ⟨R,2,none⟩ _ D hDR,Below.heap_setCell _ ⟨R,1,none⟩ _ D hDR,Below.heap_setCell _ ⟨R,0,none⟩ _ D hDR];exact hK
         have HK5:=qb hK5
         have HFIN:Hid (∀Z,Z=(five W R (.int .i64 q.kind) (.int .i64 q.at_) (.int .i64 q.num) (.string ⟨q.name.toArray⟩) (.slice As M9 cs)).putObj D (.deferred none)→Box Z R qi #[.int .i64 q.kind,.int .i64 q.at_,.int .i64 q.num,.string ⟨q.name.toArray⟩,.slice As M9 cs]∧TyP l v w0 rb A wants over rs G w (.node q (p+1)) (.returned (.tuple #[.agg #[.int .i64 q.kind,.int .i64 q.at_,.int .i64 q.num,.string ⟨q.name.toArray⟩,.slice As M9 cs],.bool true])) Z):=qb fun Z hZ=>by
           have h5:∀k,k≠R→k≠D→Z.heap[k]?=W.heap[k]?:=fun k hk hkD=>by
             rw[hZ,World.putObj_heap_other hkD];unfold five;rw[Below.heap_setCell _ ⟨R,4,none⟩ _ k hk,Below.heap_setCell _ ⟨R,3,none⟩ _ k hk,Below.heap_setCell _ ⟨R,2,none⟩ _ k hk,Below.heap_setCell _ ⟨R,1,none⟩ _ k hk,Below.heap_setCell _ ⟨R,0,none⟩ _ k hk]
           have hbz:Box Z R qi #[.int .i64 q.kind,.int .i64 q.at_,.int .i64 q.num,.string ⟨q.name.toArray⟩,.slice As M9 cs]:=by rw[hZ];exact(World.putObj_heap_other (fun e=>hDR e.symm)).trans (qj hbR _ _ _ _ _)
           have hsz:Z.heap.size=W.heap.size:=by rw[hZ];unfold five;simp[World.setCell]
           have hlow:Below w0.heap.size w0 Z:=by
             have h1:Below w0.heap.size w0 W:=HL7.out.trans (hB.mono (by have:=HA.out.low.size;omega));rw[hZ];exact(qm h1 (by rw[HRR.out];exact HA.out.low.size) _ _ _ _ _).grown (grownBy_putObj' _ D _) (by have:=h1.size;unfold five;simpa [World.setCell]using this) (fun k e=>by cases e;have:=HA.out.low.size;omega)
           have hmv:Mv v rb wants over i (p+1) w Z:=⟨fun k hk hn=>(h5 k (by have:=HRR.out;omega) (by omega)).trans ((hB.block k (by omega)).trans (HV7.out.1 k hk hn)),by rw[hsz];exact Nat.le_trans HV7.out.2.1 hB.size,fun vr vo e=>(h5 rb hrR (by have:=HA.out.lt;omega)).trans ((hB.block rb (by have:=HA.out.lt;omega)).trans (HV7.out.2.2 vr vo e))⟩;refine⟨hbz,.slice As M9 cs,rfl,hk.carry fun b o u e hc=>?_,HQ.out,HA.out.moved hmv hlow HJ.out,HA.out.only hmv.1,hmv.2.1⟩;have hlt:b<W.heap.size:=World.block_lt_of_cell? _ _ hc
           have hbD:b≠D:=fun e2=>by
             obtain⟨o2,ho2,hc2⟩:=cells_of_cell hc;rw[show(⟨b,o,none⟩:Addr).block=D from e2,hK]at ho2;injection ho2 with ho2
             rw[←ho2]at hc2;cases hc2
           exact⟨⟨by omega,by rw[hsz];exact hlt⟩,(World.cell?_of_block (w:=W) (w':=Z) (a:=⟨b,o,none⟩) (h5 b (by omega) hbD)).trans hc⟩
         have n0:=hb.cell 0;have n1:=hb.cell 1;have n2:=hb.cell 2;have n3:=hb.cell 3;have n4:=hb.cell 4;have r0:=hbR.cell 0;have r1:=hbR.cell 1;have r2:=hbR.cell 2;have r3:=hbR.cell 3;have r4:=hbR.cell 4;have g0:=hbR.frozen 0;have g1:=hbR.frozen 1;have g2:=hbR.frozen 2;have g3:=hbR.frozen 3;have g4:=hbR.frozen 4;simp only[qg]at n0 n1 n2 n3 n4 r0 r1 r2 r3 r4;clear hq hM9 hb hk hB bN bS bR7 hrow4 hI7 hk7 hz7 hR4 hV4 hbR hK hK5 hRN' hwN' hz7' hDR hD
         gi_wp2
         go_wp2_with fail;refine⟨by simp,.inl ⟨_,_,rfl,run_takeDeferred HK5.out,?_⟩⟩;obtain⟨p1,p2⟩:=HFIN.out _ rfl;refine⟨_,qk rfl rfl rfl p1,?_⟩;rw[HPP.out,HEN.out];exact p2
       case stop=>
         rintro D c pre W _ _ h _;exact h.elim
end Go.Proofs.YtdndfifkfjoffaaGreatDoor.pm.em
namespace Go.Proofs.YtdndfifkfjoffaaGreatDoor.pm.em
open Go.RowKit wd lx nt ne pm mem
open vt (I64 qft qt qv qZ qee Typ)
variable{l:List Tk}{v:Value}{w0:World}{rb:Nat}{A A':Nat→Prop}{i j:Int}{wants over:Bool}{rs:List NT}{G:List Frm}{w w':World}
theorem qbr{o:Out}{e:Ending}{w:World}(h:qw l v w0 rb o e w):∃b,e=.returned (.bool b):=by
 unfold qw at h;split at h
 · exact⟨_,h.1⟩
 · exact⟨_,h.1⟩
 · exact⟨_,h.1⟩
theorem qlR(bn:Bool)(h:Rd l v w0 rb A i wants false (rdL G) G w)(hin:(qh l i).kind≠0)(hbn:decide ((qh l (i+1)).kind=1)=bn)(hl:(rdL G).length≤1048580)(hG:G.length≤1048580):
   Calls Tryz.prog 145 #[.pointer (some ⟨rb,0,none⟩)] w (qw l v w0 rb (qaO l (i+1) 18 (qh l i).at_ G)):=by
 have hi:=qC hin;have hlen:=h.env.src.len;have hx:IntKind.i64.wrap (i+1)=i+1:=IntWalk.i64_in _ (by omega);have hx2:IntKind.i64.wrap (i+1+1)=i+1+1:=IntWalk.i64_in _ (by omega);have HJ:Hid (I64 (i+1)):=qb (by unfold I64;omega);have HJ2:Hid (I64 (i+1+1)):=qb (by unfold I64;omega);have HR:=qb h;have HC:=qb (qs h);have HL:=qb hl;have HG:=qb hG;have hfi:=fun w'=>qaB (qh l i) w';have HFA:=qb (h.env.src.fair i);have HFB:=qb (h.env.src.fair (i+1));have HBN:=qb hbn;obtain⟨o,ho⟩:=qc (qaO l (i+1) 18 (qh l i).at_ G);rw[←ho];have HO:=qb ho;clear h hin hi hlen hl hG ho hbn;go_enter Tryz.func145,Tryz.ntmps145
 go_wp2_with fail;refine HC.out.mono ?_;rintro e w1 ⟨rfl,hb1⟩;unfold tkA;obtain⟨vr,vo,vs,⟨_,c1,_⟩,hf,hbx,_⟩:=(HR.out.on hb1).cells;have f1:=hf 1;have hrz:rb<w1.heap.size:=hbx.lt;have hrn:¬rb=w1.heap.size:=by omega
 have HR1:=qb ((HR.out.on hb1).seti HJ.out).non;have hz1:(w1.setCell ⟨rb,1,none⟩ (.int .i64 (i+1))).heap.size=w1.heap.size:=by simp[World.setCell]
 have HZ1:=qb hz1;clear hb1 hf hbx hz1;go_wp2_with fail;clear hfi c1 f1 hrn;obtain⟨N,hN⟩:=qc w1.heap.size;obtain⟨X,hX⟩:=qc ((w1.setCell ⟨rb,1,none⟩ (.int .i64 (i+1))).alloc (.cells #[.int .i64 18,.int .i64 (qh l i).at_,.int .i64 0,.string ⟨#[]⟩,.slice none 0 0] qi));rw[←hN];rw[show(w1.setCell ⟨rb,1,none⟩ (.int .i64 (i+1))).alloc (.cells #[.int .i64 18,.int .i64 (qh l i).at_,.int .i64 0,.string ⟨#[]⟩,.slice none 0 0] 29)=X from hX.symm];have hz:N=(w1.setCell ⟨rb,1,none⟩ (.int .i64 (i+1))).heap.size:=by rw[HZ1.out];exact hN
 have bN:Box X N qi #[.int .i64 18,.int .i64 (qh l i).at_,.int .i64 0,.string ⟨#[]⟩,.slice none 0 0]:=by rw[hX];exact Box.new _ _ _ _ hz
 have hbX:Below N (w1.setCell ⟨rb,1,none⟩ (.int .i64 (i+1))) X:=by rw[hX];exact qd.alloc (by rw[←hz];exact Nat.le_refl _) _
 have HBX:=qb hbX;have HZ:=qb hz;have HBNX:=qb bN;have hNX:=bN.lt;have hrX:rb<N:=by rw[hN];exact hrz
 have HC2:=qb (qs (HR1.out.on_ (by rw[←hz];exact hbX)));have HR1X:=qb (HR1.out.on_ (by rw[←hz];exact hbX));have HXL:=qb (And.intro hNX hrX);clear hN hX hz bN hbX hrz hNX hrX;refine HC2.out.mono ?_;rintro e w2 ⟨rfl,hb2⟩;have HB2:=qb hb2;clear hb2;unfold tkA;go_wp2_with fail;obtain⟨T,hT⟩:=qc w2.heap.size;obtain⟨Y,hY⟩:=qc (w2.alloc (.cells #[.int .i64 (qh l (i+1)).kind,.int .i64 (qh l (i+1)).at_,.int .i64 (qh l (i+1)).n,.string ⟨(qh l (i+1)).text.toArray⟩] TkT));rw[←hT];rw[show w2.alloc (.cells #[.int .i64 (qh l (i+1)).kind,.int .i64 (qh l (i+1)).at_,.int .i64 (qh l (i+1)).n,.string ⟨(qh l (i+1)).text.toArray⟩] 40)=Y from hY.symm];have bT:Box Y T TkT #[.int .i64 (qh l (i+1)).kind,.int .i64 (qh l (i+1)).at_,.int .i64 (qh l (i+1)).n,.string ⟨(qh l (i+1)).text.toArray⟩]:=by rw[hY];exact Box.new _ _ _ _ hT
 have hbY:Below X.heap.size X Y:=by rw[hY];exact HB2.out.alloc HB2.out.size _
 have HN2:=qb (qck (qh l (i+1)) Y ((HR1X.out.on hbY).ldw) (fun hk=>(HR.out.env.good (i+1)).1 hk));rw[HBN.out]at HN2;have HBT:=qb bT;have HBY:=qb hbY;have HTX:Hid (X.heap.size≤T):=qb (by rw[hT];exact HB2.out.size);unfold tkA at HN2;clear hT hY bT hbY;refine HN2.out.mono ?_;rintro e w3 ⟨rfl,hb3⟩;have hb3X:Below X.heap.size X w3:=HBY.out.trans (hb3.mono HBY.out.size);have HB3X:=qb hb3X;have bN3:=HBNX.out.on hb3X;have bT3:=HBT.out.on hb3;have HR3:=qb (HR1X.out.on_ hb3X);have t3:=bT3.cell 3;have f3:=bN3.frozen 3;have n0:=bN3.cell 0;have n1:=bN3.cell 1;have n2:=bN3.cell 2;have n3:=bN3.cell 3;have n4:=bN3.cell 4;simp only[qg]at n0 n1 n2 n3 n4;simp only[qg]at t3;obtain⟨vr,vo,vs,⟨_,c1,_⟩,hf,_,_⟩:=HR3.out.cells;have f1:=hf 1;have q1:¬rb=N:=by have:=HXL.out.2;omega
 have q2:¬N=rb:=fun e=>q1 e.symm
 have HRS:Hid (Rd l v w0 rb (fun _=>False) (i+1) wants false (rdL G) G (w3.setCell ⟨N,3,none⟩ (.string ⟨(qh l (i+1)).text.toArray⟩))):=qb (HR1.out.on_ (by
   have h1:=HBX.out.trans (hb3X.mono (by have:=HXL.out.1;omega));rw[←HZ.out];exact h1.setCell (p:=⟨N,3,none⟩) qe _))
 clear hb3 hb3X bN3 bT3 hf
 cases bn with
 |false=>
   go_wp2_with fail;go_ret;rw[HO.out];unfold qaO;rw[if_neg (of_decide_eq_false HBN.out)]
   exact⟨rfl,_,_,_,_,HR3.out⟩
 |true=>
   have HRA:=qb (qe6 18 (qh l i).at_ (qh l (i+1)).text (HRS.out.seti HJ2.out) HL.out HG.out ⟨by show I64 18;unfold I64;omega,HFA.out.1,by show I64 0;unfold I64;omega,HFB.out.2.2⟩ (by decide));have HO2:Hid (o=qar l (i+1+1) 18 (qh l i).at_ (qh l (i+1)).text [] G):=qb (by rw[HO.out];unfold qaO;rw[if_pos (of_decide_eq_true HBN.out)]);rw[←HO2.out]at HRA;go_wp2_with fail;refine HRA.out.mono ?_;intro e w9 hp9;obtain⟨b9,hb9⟩:=qbr hp9;subst hb9;have HP9:=qb hp9;clear hp9;go_wp2_with fail;go_ret;exact HP9.out
theorem qkw{a j:Int}{n:NT}{s:Value}{N:Nat}{X w2:World}(hz:X.heap.size≤w2.heap.size)(hl:(rdL G).length≤1048580)(hG:G.length≤1048580)(hd0:Hd (.mk 19 a 0 [] []))(hk:nt.ql (fun b=>X.heap.size≤b∧b<w2.heap.size) w2 n.kids s)(hd:Hd n)(hr:Rd l v w0 rb (Up (fun b=>b=N) X w2) j wants false (rdL G) G w2):
   Calls Tryz.prog 136 #[.pointer (some ⟨rb,0,none⟩),.agg #[.int .i64 19,.int .i64 a,.int .i64 0,.string ⟨#[]⟩,.slice none 0 0],.slice (some ⟨w2.heap.size+1,0,none⟩) 1 1] ((w2.alloc (.cells #[.int .i64 n.kind,.int .i64 n.at_,.int .i64 n.num,.string ⟨n.name.toArray⟩,s] qi)).alloc (.cells #[.int .i64 n.kind,.int .i64 n.at_,.int .i64 n.num,.string ⟨n.name.toArray⟩,s] qi)) (qw l v w0 rb (qar l j 19 a [] [n] G)):=by
 have hb:Below w2.heap.size w2 ((w2.alloc (.cells #[.int .i64 n.kind,.int .i64 n.at_,.int .i64 n.num,.string ⟨n.name.toArray⟩,s] qi)).alloc (.cells #[.int .i64 n.kind,.int .i64 n.at_,.int .i64 n.num,.string ⟨n.name.toArray⟩,s] qi)):=(qd.alloc qe _).alloc (by simp) _;have hrow:=qcC (w:=w2.alloc (.cells #[.int .i64 n.kind,.int .i64 n.at_,.int .i64 n.num,.string ⟨n.name.toArray⟩,s] qi)) (G:=fun b=>X.heap.size≤b∧b<w2.heap.size+2) (N:=w2.heap.size+1) (by simp) hd ((hk.below (qd.alloc qe _)).mono fun b q=>⟨q.1,by omega⟩) ⟨by omega,by omega⟩
 exact qlq 19 a [] n (w2.heap.size+1) (hrow.mono fun b q=>by
   by_cases hlt:b<w2.heap.size
   · exact Or.inl (Or.inr ⟨q.1,hlt⟩)
   · exact Or.inr ⟨by omega,by simp;omega⟩) (hr.on hb) hl hG hd0 (by decide)
theorem ql4(h:Rd l v w0 rb A i wants false (rdL G) G w)(hin:(qh l i).kind≠0)(hl:(rdL G).length≤1048580)(hG:G.length≤1048580):
   Calls Tryz.prog 146 #[.pointer (some ⟨rb,0,none⟩)] w (qw l v w0 rb (qma l (qh l i).at_ G (qaV l (i+1)))):=by
 have hi:=qC hin;have hlen:=h.env.src.len;have hx:IntKind.i64.wrap (i+1)=i+1:=IntWalk.i64_in _ (by omega);have HJ:Hid (I64 (i+1)):=qb (by unfold I64;omega);have HR:=qb h;have HC:=qb (qs h);have HL:=qb hl;have HG:=qb hG;have hfi:=fun w'=>qaB (qh l i) w';have HFA:=qb (h.env.src.fair i);obtain⟨o,ho⟩:=qc (qma l (qh l i).at_ G (qaV l (i+1)));rw[←ho];have HO:=qb ho;clear h hin hi hlen hl hG ho;go_enter Tryz.func146,Tryz.ntmps146
 go_wp2_with fail;refine HC.out.mono ?_;rintro e w1 ⟨rfl,hb1⟩;unfold tkA;obtain⟨vr,vo,vs,⟨_,c1,_⟩,hf,hbx,_⟩:=(HR.out.on hb1).cells;have f1:=hf 1;have hrz:rb<w1.heap.size:=hbx.lt;have hrn:¬rb=w1.heap.size:=by omega
 have HR1:=qb ((HR.out.on hb1).seti HJ.out).non;have hz1:(w1.setCell ⟨rb,1,none⟩ (.int .i64 (i+1))).heap.size=w1.heap.size:=by simp[World.setCell]
 have HZ1:=qb hz1;clear hb1 hf hbx hz1;go_wp2_with fail;clear hfi c1 f1 hrn;obtain⟨N,hN⟩:=qc w1.heap.size;obtain⟨X,hX⟩:=qc ((w1.setCell ⟨rb,1,none⟩ (.int .i64 (i+1))).alloc (.cells #[.int .i64 19,.int .i64 (qh l i).at_,.int .i64 0,.string ⟨#[]⟩,.slice none 0 0] qi));rw[←hN];rw[show(w1.setCell ⟨rb,1,none⟩ (.int .i64 (i+1))).alloc (.cells #[.int .i64 19,.int .i64 (qh l i).at_,.int .i64 0,.string ⟨#[]⟩,.slice none 0 0] 29)=X from hX.symm];have hz:N=(w1.setCell ⟨rb,1,none⟩ (.int .i64 (i+1))).heap.size:=by rw[HZ1.out];exact hN
 have bN:Box X N qi #[.int .i64 19,.int .i64 (qh l i).at_,.int .i64 0,.string ⟨#[]⟩,.slice none 0 0]:=by rw[hX];exact Box.new _ _ _ _ hz
 have hbX:Below N (w1.setCell ⟨rb,1,none⟩ (.int .i64 (i+1))) X:=by rw[hX];exact qd.alloc (by rw[←hz];exact Nat.le_refl _) _
 have hRX:=(HR1.out.on (by rw[←hz];exact hbX)).mono (A':=fun b=>b=N) fun b q=>Or.inr (by subst q;rw[←hz];exact⟨Nat.le_refl _,bN.lt⟩);have HT:=qb (qez hRX);have HBNX:=qb bN;have HNX:=qb bN.lt;clear hN hX hz bN hbX hrz
 cases htr:qaV l (i+1)with
 |no j=>
   rw[htr]at HT;have HO2:Hid (o=.no j):=qb (by rw[HO.out,htr];rfl);clear htr hRX;refine HT.out.mono ?_;intro e w2 hp2;obtain⟨rfl,hr2,_⟩:=hp2;have HR2:=qb hr2;clear hr2;go_wp2_with fail;go_ret;rw[HO2.out]
   exact⟨rfl,_,_,_,_,(HR2.out.on (qd.alloc qe _)).non⟩
 |list ns j=>
   rw[htr]at HT;refine HT.out.mono ?_;intro e w2 hp2
   exact hp2.elim
 |node n j=>
   rw[htr]at HT;have HO2:Hid (o=qar l j 19 (qh l i).at_ [] [n] G):=qb (by rw[HO.out,htr];rfl);clear htr;refine HT.out.mono ?_;intro e w2 hp2;obtain⟨s,rfl,hk2,hd2,hr2,hkeep,hsz⟩:=hp2;have bN2:Box w2 N qi _:=(hkeep N rfl).trans HBNX.out;obtain⟨As,cs,rfl,_⟩:=hk2.form;obtain⟨K,hK⟩:=qc (w2.heap.size+1);have HARG:=qb (qkw (X:=X) (N:=N) hsz HL.out HG.out (⟨by show I64 19;unfold I64;omega,HFA.out.1,by show I64 0;unfold I64;omega,by show 0≤281474976710656;omega⟩:Hd (.mk 19 (qh l i).at_ 0 [] [])) hk2 hd2 hr2);rw[←HO2.out]at HARG;obtain⟨M9,hM9⟩:=qc n.kids.length;rw[←hM9]at HARG ⊢;have n0:=bN2.cell 0;have n1:=bN2.cell 1;have n2:=bN2.cell 2;have n3:=bN2.cell 3;have n4:=bN2.cell 4;simp only[qg]at n0 n1 n2 n3 n4;have hN2:=bN2.lt;clear hk2 hd2 hr2 hkeep bN2 hM9 hK;go_wp2_with fail;refine HARG.out.mono ?_;intro e w9 hp9;obtain⟨b9,hb9⟩:=qbr hp9;subst hb9;have HP9:=qb hp9;clear hp9;go_wp2_with fail;go_ret;exact HP9.out
end Go.Proofs.YtdndfifkfjoffaaGreatDoor.pm.em

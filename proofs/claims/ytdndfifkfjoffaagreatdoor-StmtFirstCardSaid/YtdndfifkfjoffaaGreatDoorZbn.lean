/- The package's functions. (and what it stands on) -/
import Derived.Test.YtdndfifkfjoffaaGreatDoorZbl
import Derived.Deep.LoopGhost
import Derived.Deep.RegionLaw
import Derived.Test.YtdndfifkfjoffaaGreatDoorZbm
import Derived.Test.YtdndfifkfjoffaaGreatDoorZbe
import Derived.Test.YtdndfifkfjoffaaGreatDoorZau
import Derived.Test.YtdndfifkfjoffaaGreatDoorZaa
set_option maxRecDepth 100000
set_option maxHeartbeats 4000000
namespace Go.Proofs.YtdndfifkfjoffaaGreatDoor.pm.sx
open Go.RowKit wd lx nt ne pm mem
open vt (I64 qft qt qv qZ qee Typ qc6)
variable{l:List Tk}{v:Value}{w0:World}{rb:Nat}{A A':Nat→Prop}{i j:Int}{G:List NT}{z:Option NT}{Op Oq:Nat}{w X Y:World}
theorem qkT(h:Rd l v w0 rb A 0 [] z w)(n:NT)(j:Int)(k:Nat)(hk:qB l k (.decls []) 0=some (.node n j))(hc:¬(qh l j).kind=0):
   Calls Tryz.prog 52 #[.pointer (some ⟨rb,0,none⟩)] w (WhP l v w0 rb A w (.no j)):=by
 obtain⟨P,hP⟩:=qc (WhP l v w0 rb A w (.no j):Ending→World→Prop);rw[←hP];have HP:=qb hP;clear hP;have HLEN:=qb h.env.src.len;have HRB:=qb h.lt;have HRK:=qb hk;have HKC:=qb hc;obtain⟨rr,hrr⟩:∃rr:Res,rr=.node n j:=⟨_,rfl⟩;have HRR:=qb hrr;have HFAIR:=qb h.env.src.fair;obtain⟨Oq,hOq⟩:=qc w.heap.size;obtain⟨U0,hU0⟩:=qc (w.alloc (.cells #[.int .i64 0,.int .i64 0,.int .i64 0,.string ⟨#[]⟩,.slice none 0 0] qi));obtain⟨Op,hOp⟩:=qc U0.heap.size;obtain⟨W0,hW0⟩:=qc (U0.alloc (.cells #[.int .i64 55,.int .i64 0,.int .i64 0,.string ⟨#[]⟩,.slice none 0 0] qi));obtain⟨H0,hpg⟩:=Pg.start h hOq hU0 hOp hW0;have HG:=qb hpg;have hqp:=hpg.qp;have hpq:¬Op=Oq:=fun e=>hqp e.symm;have hpr:=hpg.pr;have hqr:=hpg.qr;have hrp:¬rb=Op:=fun e=>hpr e.symm;have hrq:¬rb=Oq:=fun e=>hqr e.symm;have HOq:=qb hOq;have HU0:=qb hU0;have HOp:=qb hOp;have HW0:=qb hW0;have HREL:Hid (qbJ l v w0 rb A w Op Oq rr k W0):=qb ⟨H0,0,z,[],none,0,qb (by rw[HRR.out];exact HRK.out),qb ⟨by omega,by omega,by simp⟩,HG⟩;clear h hk hrr hc hOq hU0 hOp hW0 hpg HG HRK;go_enter Tryz.func52,Tryz.ntmps52
 go_wp2_with (first|(rw[←HU0.out,←HOq.out])|(rw[←HW0.out,←HOp.out]))
 go_loopg [] k (fun g wr=>qbJ l v w0 rb A w Op Oq rr g wr)
 case atStart=>exact HREL.out
 case round=>
   unfold qbJ at hrel;obtain⟨H,p,z1,ns,As,cs,HPL,HIP,HG⟩:=hrel
   obtain⟨g1,hg1⟩:∃g1,gk=g1+1:=by
     cases gk with
     |zero=>have q:=HPL.out;rw[qB]at q;cases q
     |succ g1=>exact⟨g1,rfl⟩
   subst hg1;have HNL:Hid (ns.length≤1099511627776):=qb (by have h1:=HIP.out;have h2:=HLEN.out;omega);rcases qcw HPL.out with⟨hm,rb1,hb1,hr1⟩|⟨hm,⟨q,hd1,hr1⟩|⟨d,q,hd1,hr1⟩⟩
   · have HM:=qb hm;have HB:=qb hb1;have HR:=qb hr1;have hin:=qQ hm;have HJ:Hid (I64 (p+1)):=qb (by have:=HLEN.out;unfold I64;omega);clear hm hb1 hr1 hin;obtain⟨⟨p10,p11,p12,p13,p14⟩,pf10,pf11,pf12,pf13,pf14⟩:=c5 HG.out.bp;obtain⟨⟨q10,q11,q12,q13,q14⟩,qf10,qf11,qf12,qf13,qf14⟩:=c5 HG.out.bq;go_wp2_with fail;refine(qal qbX HG.out.rs HM.out).mono ?_;rintro e w2 ⟨rfl,hmv⟩;replace HG:=qb (HG.out.moved hmv HJ.out);clear hmv p10 p11 p12 p13 p14 pf10 pf11 pf12 pf13 pf14 q10 q11 q12 q13 q14 qf10 qf11 qf12 qf13 qf14;obtain⟨⟨p20,p21,p22,p23,p24⟩,pf20,pf21,pf22,pf23,pf24⟩:=c5 HG.out.bp;obtain⟨⟨q20,q21,q22,q23,q24⟩,qf20,qf21,qf22,qf23,qf24⟩:=c5 HG.out.bq;go_wp2_with fail;refine(qcT (.mk 55 0 0 [] ns) (.slice As ns.length cs) HG.out.hx.rd HG.out.kh HG.out.row HNL.out qnk HB.out).mono ?_;intro e w3 hp;rw[←HR.out]at hp;rw[HRR.out]at hp;clear HR HB p20 p21 p22 p23 p24 pf20 pf21 pf22 pf23 pf24 q20 q21 q22 q23 q24 qf20 qf21 qf22 qf23 qf24;obtain⟨sn,A3,rfl,hsub,hrd,hkk,hss,hkd,hdn⟩:=hp;obtain⟨An,cn,rfl,_⟩:=hkd.form;obtain⟨w5a,w5b,w5c,w5d,w5e⟩:=HG.out.own (n:=n) hsub hrd hkk hss hkd (.int .i64 n.kind) (.int .i64 n.at_) (.int .i64 n.num) (.string ⟨n.name.toArray⟩) (.slice An n.kids.length cn);obtain⟨W5,hW5⟩:=qc (nt.five w3 Op (.int .i64 n.kind) (.int .i64 n.at_) (.int .i64 n.num) (.string ⟨n.name.toArray⟩) (.slice An n.kids.length cn));have hpb5:Box W5 Op qi #[.int .i64 n.kind,.int .i64 n.at_,.int .i64 n.num,.string ⟨n.name.toArray⟩,.slice An n.kids.length cn]:=by rw[hW5];exact nt.qj w5d _ _ _ _ _
     rw[←hW5]at w5a w5b w5c;have HW5:=qb hW5;unfold nt.five at HW5;obtain⟨⟨o0,o1,o2,o3,o4⟩,of0,of1,of2,of3,of4⟩:=c5 w5d;obtain⟨⟨x0,x1,x2,x3,x4⟩,xf0,xf1,xf2,xf3,xf4⟩:=c5 hpb5;obtain⟨⟨y0,y1,y2,y3,y4⟩,yf0,yf1,yf2,yf3,yf4⟩:=c5 w5c;have HX5:=qb w5a;have HK5:=qb w5b;have HQ5:=qb w5c;have HP5:=qb hpb5;have HA5:=qb w5e;have HDN:=qb hdn;have HQA:=qb HG.out.qa;have HOQ0:Hid (w0.heap.size≤Oq):=qb (HG.out.hx.lt Oq HG.out.hq).1;obtain⟨Av,cv,vo,b0,d0,e0,f0,g0,h0_,k0,hv,hbx⟩:=w5a.rd.rs.box;have hll:=w5a.rd.rs.env.src.len;have HBX:=qb hbx;have HVV:=qb hv
     have HCE:Hid (∀w',Below W5.heap.size W5 w'→w'.cell? ⟨Op,0,none⟩=some (.int .i64 n.kind)∧w'.cell? ⟨Op,1,none⟩=some (.int .i64 n.at_)∧w'.cell? ⟨Op,2,none⟩=some (.int .i64 n.num)∧w'.cell? ⟨Op,3,none⟩=some (.string ⟨n.name.toArray⟩)∧w'.cell? ⟨Op,4,none⟩=some (.slice An n.kids.length cn)∧w'.cell? ⟨rb,0,none⟩=some (.slice Av l.length cv)∧w'.cell? ⟨rb,1,none⟩=some (.int .i64 j)):=qb (fun w' hb=>by
       have q:=HP5.out.on hb;have r:=HBX.out.on hb;have r0:=r.cell 0;have r1:=r.cell 1;simp only[qg]at r0 r1;rw[HVV.out]at r0;exact⟨q.cell 0,q.cell 1,q.cell 2,q.cell 3,q.cell 4,r0,r1⟩)
     have HTK:Hid (∀w',Below W5.heap.size W5 w'→Calls Tryz.prog 63 #[.pointer (some ⟨rb,0,none⟩)] w' (fun e w2=>e=.returned (.agg #[.int .i64 (qh l j).kind,.int .i64 (qh l j).at_,.int .i64 (qh l j).n,.string ⟨(qh l j).text.toArray⟩])∧Below W5.heap.size W5 w2)):=qb (fun w' hb=>(qs (HX5.out.rd.rs.on hb)).mono fun e w2 q=>⟨by rw[q.1];unfold tkA;rfl,hb.trans (q.2.mono hb.size)⟩);have hkn:=HKC.out;have htf:=fun(a1 a2 a3:Int) (a4:ByteArray) (w9:World)=>qmP a1 a2 a3 a4 w9;clear hsub hrd hkk hss hkd hdn w5a w5b w5c w5d w5e hW5 hpb5 HG hbx hv;go_wp2_with (first|(rw[←HW5.out]));have hwl:IntKind.i64.wrap ((l.length:Int)-1)=(l.length:Int)-1:=qg3 _ (by omega) (by omega);refine wp_region_held_drew (S:=fun w'=>w'.cell? ⟨Op,0,none⟩=some (.int .i64 n.kind)∧w'.cell? ⟨Op,1,none⟩=some (.int .i64 n.at_)∧w'.cell? ⟨Op,2,none⟩=some (.int .i64 n.num)∧w'.cell? ⟨Op,3,none⟩=some (.string ⟨n.name.toArray⟩)∧w'.cell? ⟨Op,4,none⟩=some (.slice An n.kids.length cn)∧w'.cell? ⟨rb,0,none⟩=some (.slice Av l.length cv)∧w'.cell? ⟨rb,1,none⟩=some (.int .i64 j)) (by kernel_rfl) ?_ (fun hHeld=>?_)
     · exact HCE.out _ (qd.drew)
     refine wpAnyH_take (i:=0) (v:=.agg #[.int .i64 n.kind,.int .i64 n.at_,.int .i64 n.num,.string ⟨n.name.toArray⟩,.slice An n.kids.length cn]) rfl (by kernel_rfl) (by kernel_rfl) (by kernel_rfl) (fun _ _ _ h=>h) (Or.inl ⟨by rfl,fun w hSw=>?_⟩) hHeld ?_
     · (try dsimp only at hSw)
       first|(go_simp;done)|(go_simp;exact hwl)|rfl
     (try simp only[Act.put,qf])
     refine wpAnyH_take (i:=1) (v:=.bool true) rfl (by kernel_rfl) (by kernel_rfl) (by kernel_rfl) (fun _ _ _ h=>h) (Or.inl ⟨by rfl,fun w hSw=>?_⟩) hHeld ?_
     · (try dsimp only at hSw)
       first|(go_simp;done)|(go_simp;exact hwl)|rfl
     (try simp only[Act.put,qf])
     refine wpAnyH_take (i:=2) (v:=.bool true) rfl (by kernel_rfl) (by kernel_rfl) (by kernel_rfl) (fun _ _ _ h=>h) (Or.inl ⟨by rfl,fun w hSw=>?_⟩) hHeld ?_
     · (try dsimp only at hSw)
       first|(go_simp;done)|(go_simp;exact hwl)|rfl
     (try simp only[Act.put,qf])
     refine wpAnyH_take (i:=3) (v:=.pointer (some ⟨rb,0,none⟩)) rfl (by kernel_rfl) (by kernel_rfl) (by kernel_rfl) (fun _ _ _ h=>h) (Or.inl ⟨by rfl,fun w hSw=>?_⟩) hHeld ?_
     · (try dsimp only at hSw)
       first|(go_simp;done)|(go_simp;exact hwl)|rfl
     (try simp only[Act.put,qf])
     refine wpAnyH_ready (rs:=[4]) (by kernel_rfl) (by simp) ?_;refine AllReadyH.cons rfl (fun K' hK'=>?_) AllReadyH.nil;go_simp;refine(HTK.out _ (qd.drew)).mono ?_;rintro e w6 ⟨rfl,hb6⟩;have HB6:=qb hb6;refine hK'.out _ _ (HCE.out _ HB6.out) (fun hHeld=>?_);clear hK' K'
     (try simp only[Act.put,qf])
     refine wpAnyH_take (i:=5) (v:=.int .i64 (qh l j).kind) rfl (by kernel_rfl) (by kernel_rfl) (by kernel_rfl) (fun _ _ _ h=>h) (Or.inl ⟨by rfl,fun w hSw=>?_⟩) hHeld ?_
     · (try dsimp only at hSw)
       first|(go_simp;done)|(go_simp;exact hwl)|rfl
     (try simp only[Act.put,qf])
     refine wpAnyH_take (i:=6) (v:=.bool false) rfl (by kernel_rfl) (by kernel_rfl) (by kernel_rfl) (fun _ _ _ h=>h) (Or.inl ⟨by rfl,fun w hSw=>?_⟩) hHeld ?_
     · (try dsimp only at hSw)
       first|(go_simp;done)|(go_simp;exact hwl)|rfl
     (try simp only[Act.put,qf])
     refine wpAnyH_take (i:=7) (v:=.bool false) rfl (by kernel_rfl) (by kernel_rfl) (by kernel_rfl) (fun _ _ _ h=>h) (Or.inl ⟨by rfl,fun w hSw=>?_⟩) hHeld ?_
     · (try dsimp only at hSw)
       first|(go_simp;done)|(go_simp;exact hwl)|rfl
     (try simp only[Act.put,qf])
     refine wpAnyH_take (i:=8) (v:=.bool false) rfl (by kernel_rfl) (by kernel_rfl) (by kernel_rfl) (fun _ _ _ h=>h) (Or.inl ⟨by rfl,fun w hSw=>?_⟩) hHeld ?_
     · (try dsimp only at hSw)
       first|(go_simp;done)|(go_simp;exact hwl)|rfl
     (try simp only[Act.put,qf])
     refine wpAnyH_take (i:=9) (v:=undef) rfl (by kernel_rfl) (by kernel_rfl) (by kernel_rfl) (fun _ _ _ h=>h) (Or.inr ⟨by rfl,rfl⟩) hHeld ?_
     (try simp only[Act.put,qf])
     refine wpAnyH_take (i:=10) (v:=undef) rfl (by kernel_rfl) (by kernel_rfl) (by kernel_rfl) (fun _ _ _ h=>h) (Or.inr ⟨by rfl,rfl⟩) hHeld ?_
     (try simp only[Act.put,qf])
     refine wpAnyH_take (i:=11) (v:=undef) rfl (by kernel_rfl) (by kernel_rfl) (by kernel_rfl) (fun _ _ _ h=>h) (Or.inr ⟨by rfl,rfl⟩) hHeld ?_
     (try simp only[Act.put,qf])
     refine wpAnyH_take (i:=12) (v:=undef) rfl (by kernel_rfl) (by kernel_rfl) (by kernel_rfl) (fun _ _ _ h=>h) (Or.inr ⟨by rfl,rfl⟩) hHeld ?_
     (try simp only[Act.put,qf])
     refine wpAnyH_take (i:=13) (v:=undef) rfl (by kernel_rfl) (by kernel_rfl) (by kernel_rfl) (fun _ _ _ h=>h) (Or.inr ⟨by rfl,rfl⟩) hHeld ?_
     (try simp only[Act.put,qf])
     refine wpAnyH_take (i:=14) (v:=undef) rfl (by kernel_rfl) (by kernel_rfl) (by kernel_rfl) (fun _ _ _ h=>h) (Or.inr ⟨by rfl,rfl⟩) hHeld ?_
     (try simp only[Act.put,qf])
     refine wpAnyH_take (i:=15) (v:=undef) rfl (by kernel_rfl) (by kernel_rfl) (by kernel_rfl) (fun _ _ _ h=>h) (Or.inr ⟨by rfl,rfl⟩) hHeld ?_
     (try simp only[Act.put,qf])
     refine wpAnyH_take (i:=16) (v:=undef) rfl (by kernel_rfl) (by kernel_rfl) (by kernel_rfl) (fun _ _ _ h=>h) (Or.inr ⟨by rfl,rfl⟩) hHeld ?_
     (try simp only[Act.put,qf])
     refine wpAnyH_take (i:=17) (v:=undef) rfl (by kernel_rfl) (by kernel_rfl) (by kernel_rfl) (fun _ _ _ h=>h) (Or.inr ⟨by rfl,rfl⟩) hHeld ?_
     (try simp only[Act.put,qf])
     refine wpAnyH_take (i:=18) (v:=undef) rfl (by kernel_rfl) (by kernel_rfl) (by kernel_rfl) (fun _ _ _ h=>h) (Or.inr ⟨by rfl,rfl⟩) hHeld ?_
     (try simp only[Act.put,qf])
     refine wpAnyH_take (i:=19) (v:=undef) rfl (by kernel_rfl) (by kernel_rfl) (by kernel_rfl) (fun _ _ _ h=>h) (Or.inr ⟨by rfl,rfl⟩) hHeld ?_
     (try simp only[Act.put,qf])
     refine wpAnyH_take (i:=20) (v:=.bool false) rfl (by kernel_rfl) (by kernel_rfl) (by kernel_rfl) (fun _ _ _ h=>h) (Or.inl ⟨by rfl,fun w hSw=>?_⟩) hHeld ?_
     · (try dsimp only at hSw)
       first|(go_simp;done)|(go_simp;exact hwl)|rfl
     (try simp only[Act.put,qf])
     refine wpAnyH_ready (rs:=[21]) (by kernel_rfl) (by simp) ?_;refine AllReadyH.cons rfl (fun K' hK'=>?_) AllReadyH.nil;have hq6:=HQ5.out.on HB6.out;obtain⟨⟨r0,r1,r2,r3,r4⟩,g0,g1,g2,g3,g4⟩:=c5 hq6;go_simp;refine hK'.out _ _ (qeq (qap hpq _ _ _ _ _) (qap hrq _ _ _ _ _) (HCE.out _ HB6.out)) (fun hHeld=>?_);clear hK' K'
     (try simp only[Act.put,qf])
     refine wpAnyH_take (i:=22) (v:=.bool false) rfl (by kernel_rfl) (by kernel_rfl) (by kernel_rfl) (fun _ _ _ h=>h) (Or.inl ⟨by rfl,fun w hSw=>?_⟩) hHeld ?_
     · (try dsimp only at hSw)
       first|(go_simp;done)|(go_simp;exact hwl)|rfl
     (try simp only[Act.put,qf])
     refine wpAnyH_done (by kernel_rfl) ?_ _;go_wp2_with fail;refine bodyPost_ret (em.qk rfl rfl rfl (qj (HQ5.out.on HB6.out) _ _ _ _ _)) rfl ?_;rw[HP.out];have h6:=(HX5.out.on HB6.out).five (O:=Oq) (Or.inl HA5.out) HQA.out;exact⟨_,_,_,_,_,_,_,rfl,(h6 _ _ _ _ _).rd.rs,(h6 _ _ _ _ _).keep,(h6 _ _ _ _ _).sz⟩
   · exact absurd (hr1.symm.trans HRR.out) (by intro e;cases e)
   · have HM:=qb hm;have HDC:=qb hd1;have HR:=qb hr1;have hen:=qaq l _ _ _ _ hd1;have HIQ:Hid (0≤q∧q≤(l.length:Int)∧(((ns++[d]).length:Nat):Int)≤q):=qb (by have h1:=hen.1;have h2:=hen.2;have h3:=HIP.out;rw[List.length_append];simp;omega);clear hm hd1 hr1 hen;obtain⟨⟨p30,p31,p32,p33,p34⟩,pf30,pf31,pf32,pf33,pf34⟩:=c5 HG.out.bp;obtain⟨⟨q30,q31,q32,q33,q34⟩,qf30,qf31,qf32,qf33,qf34⟩:=c5 HG.out.bq;go_wp2_with fail;refine(qay qbX HG.out.rs HM.out).mono ?_;rintro e w2 ⟨rfl,hb⟩;replace HG:=qb (HG.out.on hb);clear hb p30 p31 p32 p33 p34 pf30 pf31 pf32 pf33 pf34 q30 q31 q32 q33 q34 qf30 qf31 qf32 qf33 qf34;obtain⟨⟨p40,p41,p42,p43,p44⟩,pf40,pf41,pf42,pf43,pf44⟩:=c5 HG.out.bp;obtain⟨⟨q40,q41,q42,q43,q44⟩,qf40,qf41,qf42,qf43,qf44⟩:=c5 HG.out.bq;go_wp2_with fail;refine(qcU HG.out.hx.rd HDC.out).mono ?_;intro e w3 hp;obtain⟨sd,A2,rfl,hsub,hrd,hkk,hss,hkd,hdd⟩:=hp;obtain⟨Ad,cd,rfl,_⟩:=hkd.form;have hg2:=HG.out.kept hkk hss hsub hrd;obtain⟨Ox,hOx⟩:=qc w3.heap.size;obtain⟨Ux,hUx⟩:=qc (w3.alloc (.cells #[.int .i64 d.kind,.int .i64 d.at_,.int .i64 d.num,.string ⟨d.name.toArray⟩,.slice Ad d.kids.length cd] qi));have hb:Below w3.heap.size w3 Ux:=by rw[hUx];exact qd.alloc qe _
     have hxx:Box Ux Ox qi #[.int .i64 d.kind,.int .i64 d.at_,.int .i64 d.num,.string ⟨d.name.toArray⟩,.slice Ad d.kids.length cd]:=by rw[hUx];exact Box.new _ _ _ _ hOx
     have HKX:=qb (HG.out.kid hsub hrd hb hkd);replace HG:=qb (hg2.on hb);have HDd:=qb hdd;have HUx:=qb hUx;have HOx:=qb hOx;obtain⟨⟨x0,x1,x2,x3,x4⟩,xf0,xf1,xf2,xf3,xf4⟩:=c5 hxx;have HAL:Hid (∀b,Dn (Up A2 w3 Ux) (Kp A Op Oq) Ux b→b<Ux.heap.size):=qb fun b q=>q.1;have HBZ:Hid (w0.heap.size≤Ux.heap.size):=qb HG.out.hx.rd.low.size;clear hsub hrd hkk hss hkd hdd hg2 hOx hUx hb hxx p40 p41 p42 p43 p44 pf40 pf41 pf42 pf43 pf44 q40 q41 q42 q43 q44 qf40 qf41 qf42 qf43 qf44;obtain⟨⟨p50,p51,p52,p53,p54⟩,pf50,pf51,pf52,pf53,pf54⟩:=c5 HG.out.bp;obtain⟨⟨q50,q51,q52,q53,q54⟩,qf50,qf51,qf52,qf53,qf54⟩:=c5 HG.out.bq;go_wp2_with (first|(rw[←HUx.out,←HOx.out])|(at_builtin;refine qy rfl _ _ rfl w0.heap.size ns.length ns d (.slice As ns.length cs) _ Ux.heap.size rfl rfl HG.out.row HDd.out HKX.out HAL.out HBZ.out rfl HNL.out rfl ?_;intro A9 c9 w9 ho9 hg9 hr9;have H9:=qb (HG.out.app ho9 hg9);obtain⟨⟨s0,s1,s2,s3,s4⟩,t0,t1,t2,t3,t4⟩:=c5 H9.out.2;obtain⟨V9,hV9⟩:=qc (w9.setCell ⟨Op,4,none⟩ (.slice A9 (ns.length+1) c9));have HG9:=qb (show Pg l v w0 rb A w Op Oq (Up (Up A2 w3 Ux) Ux w9) q none (ns++[d]) (.slice A9 (ns.length+1) c9) V9 from by rw[hV9];exact H9.out.1);have HV9:=qb hV9;clear ho9 hg9 hr9 hV9)|(rw[←HV9.out]))
     go_roundg g1
     case measure=>omega
     case rel=>unfold qbJ;exact⟨_,q,none,ns++[d],A9,c9,HR,HIQ,qb (by simpa using HG9.out)⟩
end Go.Proofs.YtdndfifkfjoffaaGreatDoor.pm.sx
namespace Go.Proofs.YtdndfifkfjoffaaGreatDoor.pm.sx
open Go.RowKit wd lx nt ne pm mem
open vt (I64 qft qt qv qZ qee Typ qc6)
variable{l:List Tk}{v:Value}{w0:World}{rb:Nat}{A A':Nat→Prop}{i j:Int}{G:List NT}{z:Option NT}{Op Oq:Nat}{w X Y:World}
theorem qkU(h:Rd l v w0 rb A 0 [] z w)(n:NT)(j:Int)(k:Nat)(hk:qB l k (.decls []) 0=some (.node n j))(hc:(qh l j).kind=0)(hl:¬j=(l.length:Int)-1):
   Calls Tryz.prog 52 #[.pointer (some ⟨rb,0,none⟩)] w (WhP l v w0 rb A w (.no j)):=by
 obtain⟨P,hP⟩:=qc (WhP l v w0 rb A w (.no j):Ending→World→Prop);rw[←hP];have HP:=qb hP;clear hP;have HLEN:=qb h.env.src.len;have HRB:=qb h.lt;have HRK:=qb hk;have HKC:=qb hc;have HLL:=qb hl;obtain⟨rr,hrr⟩:∃rr:Res,rr=.node n j:=⟨_,rfl⟩;have HRR:=qb hrr;have HFAIR:=qb h.env.src.fair;obtain⟨Oq,hOq⟩:=qc w.heap.size;obtain⟨U0,hU0⟩:=qc (w.alloc (.cells #[.int .i64 0,.int .i64 0,.int .i64 0,.string ⟨#[]⟩,.slice none 0 0] qi));obtain⟨Op,hOp⟩:=qc U0.heap.size;obtain⟨W0,hW0⟩:=qc (U0.alloc (.cells #[.int .i64 55,.int .i64 0,.int .i64 0,.string ⟨#[]⟩,.slice none 0 0] qi));obtain⟨H0,hpg⟩:=Pg.start h hOq hU0 hOp hW0;have HG:=qb hpg;have hqp:=hpg.qp;have hpq:¬Op=Oq:=fun e=>hqp e.symm;have hpr:=hpg.pr;have hqr:=hpg.qr;have hrp:¬rb=Op:=fun e=>hpr e.symm;have hrq:¬rb=Oq:=fun e=>hqr e.symm;have HOq:=qb hOq;have HU0:=qb hU0;have HOp:=qb hOp;have HW0:=qb hW0;have HREL:Hid (qbJ l v w0 rb A w Op Oq rr k W0):=qb ⟨H0,0,z,[],none,0,qb (by rw[HRR.out];exact HRK.out),qb ⟨by omega,by omega,by simp⟩,HG⟩;clear h hk hrr hc hl hOq hU0 hOp hW0 hpg HG HRK;go_enter Tryz.func52,Tryz.ntmps52
 go_wp2_with (first|(rw[←HU0.out,←HOq.out])|(rw[←HW0.out,←HOp.out]))
 go_loopg [] k (fun g wr=>qbJ l v w0 rb A w Op Oq rr g wr)
 case atStart=>exact HREL.out
 case round=>
   unfold qbJ at hrel;obtain⟨H,p,z1,ns,As,cs,HPL,HIP,HG⟩:=hrel
   obtain⟨g1,hg1⟩:∃g1,gk=g1+1:=by
     cases gk with
     |zero=>have q:=HPL.out;rw[qB]at q;cases q
     |succ g1=>exact⟨g1,rfl⟩
   subst hg1;have HNL:Hid (ns.length≤1099511627776):=qb (by have h1:=HIP.out;have h2:=HLEN.out;omega);rcases qcw HPL.out with⟨hm,rb1,hb1,hr1⟩|⟨hm,⟨q,hd1,hr1⟩|⟨d,q,hd1,hr1⟩⟩
   · have HM:=qb hm;have HB:=qb hb1;have HR:=qb hr1;have hin:=qQ hm;have HJ:Hid (I64 (p+1)):=qb (by have:=HLEN.out;unfold I64;omega);clear hm hb1 hr1 hin;obtain⟨⟨p10,p11,p12,p13,p14⟩,pf10,pf11,pf12,pf13,pf14⟩:=c5 HG.out.bp;obtain⟨⟨q10,q11,q12,q13,q14⟩,qf10,qf11,qf12,qf13,qf14⟩:=c5 HG.out.bq;go_wp2_with fail;refine(qal qbX HG.out.rs HM.out).mono ?_;rintro e w2 ⟨rfl,hmv⟩;replace HG:=qb (HG.out.moved hmv HJ.out);clear hmv p10 p11 p12 p13 p14 pf10 pf11 pf12 pf13 pf14 q10 q11 q12 q13 q14 qf10 qf11 qf12 qf13 qf14;obtain⟨⟨p20,p21,p22,p23,p24⟩,pf20,pf21,pf22,pf23,pf24⟩:=c5 HG.out.bp;obtain⟨⟨q20,q21,q22,q23,q24⟩,qf20,qf21,qf22,qf23,qf24⟩:=c5 HG.out.bq;go_wp2_with fail;refine(qcT (.mk 55 0 0 [] ns) (.slice As ns.length cs) HG.out.hx.rd HG.out.kh HG.out.row HNL.out qnk HB.out).mono ?_;intro e w3 hp;rw[←HR.out]at hp;rw[HRR.out]at hp;clear HR HB p20 p21 p22 p23 p24 pf20 pf21 pf22 pf23 pf24 q20 q21 q22 q23 q24 qf20 qf21 qf22 qf23 qf24;obtain⟨sn,A3,rfl,hsub,hrd,hkk,hss,hkd,hdn⟩:=hp;obtain⟨An,cn,rfl,_⟩:=hkd.form;obtain⟨w5a,w5b,w5c,w5d,w5e⟩:=HG.out.own (n:=n) hsub hrd hkk hss hkd (.int .i64 n.kind) (.int .i64 n.at_) (.int .i64 n.num) (.string ⟨n.name.toArray⟩) (.slice An n.kids.length cn);obtain⟨W5,hW5⟩:=qc (nt.five w3 Op (.int .i64 n.kind) (.int .i64 n.at_) (.int .i64 n.num) (.string ⟨n.name.toArray⟩) (.slice An n.kids.length cn));have hpb5:Box W5 Op qi #[.int .i64 n.kind,.int .i64 n.at_,.int .i64 n.num,.string ⟨n.name.toArray⟩,.slice An n.kids.length cn]:=by rw[hW5];exact nt.qj w5d _ _ _ _ _
     rw[←hW5]at w5a w5b w5c;have HW5:=qb hW5;unfold nt.five at HW5;obtain⟨⟨o0,o1,o2,o3,o4⟩,of0,of1,of2,of3,of4⟩:=c5 w5d;obtain⟨⟨x0,x1,x2,x3,x4⟩,xf0,xf1,xf2,xf3,xf4⟩:=c5 hpb5;obtain⟨⟨y0,y1,y2,y3,y4⟩,yf0,yf1,yf2,yf3,yf4⟩:=c5 w5c;have HX5:=qb w5a;have HK5:=qb w5b;have HQ5:=qb w5c;have HP5:=qb hpb5;have HA5:=qb w5e;have HDN:=qb hdn;have HQA:=qb HG.out.qa;have HOQ0:Hid (w0.heap.size≤Oq):=qb (HG.out.hx.lt Oq HG.out.hq).1;obtain⟨Av,cv,vo,b0,d0,e0,f0,g0,h0_,k0,hv,hbx⟩:=w5a.rd.rs.box;have hll:=w5a.rd.rs.env.src.len;have HBX:=qb hbx;have HVV:=qb hv
     have HCE:Hid (∀w',Below W5.heap.size W5 w'→w'.cell? ⟨Op,0,none⟩=some (.int .i64 n.kind)∧w'.cell? ⟨Op,1,none⟩=some (.int .i64 n.at_)∧w'.cell? ⟨Op,2,none⟩=some (.int .i64 n.num)∧w'.cell? ⟨Op,3,none⟩=some (.string ⟨n.name.toArray⟩)∧w'.cell? ⟨Op,4,none⟩=some (.slice An n.kids.length cn)∧w'.cell? ⟨rb,0,none⟩=some (.slice Av l.length cv)∧w'.cell? ⟨rb,1,none⟩=some (.int .i64 j)):=qb (fun w' hb=>by
       have q:=HP5.out.on hb;have r:=HBX.out.on hb;have r0:=r.cell 0;have r1:=r.cell 1;simp only[qg]at r0 r1;rw[HVV.out]at r0;exact⟨q.cell 0,q.cell 1,q.cell 2,q.cell 3,q.cell 4,r0,r1⟩)
     have HTK:Hid (∀w',Below W5.heap.size W5 w'→Calls Tryz.prog 63 #[.pointer (some ⟨rb,0,none⟩)] w' (fun e w2=>e=.returned (.agg #[.int .i64 0,.int .i64 (qh l j).at_,.int .i64 (qh l j).n,.string ⟨(qh l j).text.toArray⟩])∧Below W5.heap.size W5 w2)):=qb (fun w' hb=>(qs (HX5.out.rd.rs.on hb)).mono fun e w2 q=>⟨by rw[q.1];unfold tkA;rw[HKC.out],hb.trans (q.2.mono hb.size)⟩);have hjl:=HLL.out;have htf:=fun(a1 a2 a3:Int) (a4:ByteArray) (w9:World)=>qmP a1 a2 a3 a4 w9;clear hsub hrd hkk hss hkd hdn w5a w5b w5c w5d w5e hW5 hpb5 HG hbx hv;go_wp2_with (first|(rw[←HW5.out]));have hwl:IntKind.i64.wrap ((l.length:Int)-1)=(l.length:Int)-1:=qg3 _ (by omega) (by omega);refine wp_region_held_drew (S:=fun w'=>w'.cell? ⟨Op,0,none⟩=some (.int .i64 n.kind)∧w'.cell? ⟨Op,1,none⟩=some (.int .i64 n.at_)∧w'.cell? ⟨Op,2,none⟩=some (.int .i64 n.num)∧w'.cell? ⟨Op,3,none⟩=some (.string ⟨n.name.toArray⟩)∧w'.cell? ⟨Op,4,none⟩=some (.slice An n.kids.length cn)∧w'.cell? ⟨rb,0,none⟩=some (.slice Av l.length cv)∧w'.cell? ⟨rb,1,none⟩=some (.int .i64 j)) (by kernel_rfl) ?_ (fun hHeld=>?_)
     · exact HCE.out _ (qd.drew)
     refine wpAnyH_take (i:=0) (v:=.agg #[.int .i64 n.kind,.int .i64 n.at_,.int .i64 n.num,.string ⟨n.name.toArray⟩,.slice An n.kids.length cn]) rfl (by kernel_rfl) (by kernel_rfl) (by kernel_rfl) (fun _ _ _ h=>h) (Or.inl ⟨by rfl,fun w hSw=>?_⟩) hHeld ?_
     · (try dsimp only at hSw)
       first|(go_simp;done)|(go_simp;exact hwl)|rfl
     (try simp only[Act.put,qf])
     refine wpAnyH_take (i:=1) (v:=.bool true) rfl (by kernel_rfl) (by kernel_rfl) (by kernel_rfl) (fun _ _ _ h=>h) (Or.inl ⟨by rfl,fun w hSw=>?_⟩) hHeld ?_
     · (try dsimp only at hSw)
       first|(go_simp;done)|(go_simp;exact hwl)|rfl
     (try simp only[Act.put,qf])
     refine wpAnyH_take (i:=2) (v:=.bool true) rfl (by kernel_rfl) (by kernel_rfl) (by kernel_rfl) (fun _ _ _ h=>h) (Or.inl ⟨by rfl,fun w hSw=>?_⟩) hHeld ?_
     · (try dsimp only at hSw)
       first|(go_simp;done)|(go_simp;exact hwl)|rfl
     (try simp only[Act.put,qf])
     refine wpAnyH_take (i:=3) (v:=.pointer (some ⟨rb,0,none⟩)) rfl (by kernel_rfl) (by kernel_rfl) (by kernel_rfl) (fun _ _ _ h=>h) (Or.inl ⟨by rfl,fun w hSw=>?_⟩) hHeld ?_
     · (try dsimp only at hSw)
       first|(go_simp;done)|(go_simp;exact hwl)|rfl
     (try simp only[Act.put,qf])
     refine wpAnyH_ready (rs:=[4]) (by kernel_rfl) (by simp) ?_;refine AllReadyH.cons rfl (fun K' hK'=>?_) AllReadyH.nil;go_simp;refine(HTK.out _ (qd.drew)).mono ?_;rintro e w6 ⟨rfl,hb6⟩;have HB6:=qb hb6;refine hK'.out _ _ (HCE.out _ HB6.out) (fun hHeld=>?_);clear hK' K'
     (try simp only[Act.put,qf])
     refine wpAnyH_take (i:=5) (v:=.int .i64 0) rfl (by kernel_rfl) (by kernel_rfl) (by kernel_rfl) (fun _ _ _ h=>h) (Or.inl ⟨by rfl,fun w hSw=>?_⟩) hHeld ?_
     · (try dsimp only at hSw)
       first|(go_simp;done)|(go_simp;exact hwl)|rfl
     (try simp only[Act.put,qf])
     refine wpAnyH_take (i:=6) (v:=.bool true) rfl (by kernel_rfl) (by kernel_rfl) (by kernel_rfl) (fun _ _ _ h=>h) (Or.inl ⟨by rfl,fun w hSw=>?_⟩) hHeld ?_
     · (try dsimp only at hSw)
       first|(go_simp;done)|(go_simp;exact hwl)|rfl
     (try simp only[Act.put,qf])
     refine wpAnyH_take (i:=7) (v:=.bool true) rfl (by kernel_rfl) (by kernel_rfl) (by kernel_rfl) (fun _ _ _ h=>h) (Or.inl ⟨by rfl,fun w hSw=>?_⟩) hHeld ?_
     · (try dsimp only at hSw)
       first|(go_simp;done)|(go_simp;exact hwl)|rfl
     (try simp only[Act.put,qf])
     refine wpAnyH_take (i:=8) (v:=.bool true) rfl (by kernel_rfl) (by kernel_rfl) (by kernel_rfl) (fun _ _ _ h=>h) (Or.inl ⟨by rfl,fun w hSw=>?_⟩) hHeld ?_
     · (try dsimp only at hSw)
       first|(go_simp;done)|(go_simp;exact hwl)|rfl
     (try simp only[Act.put,qf])
     refine wpAnyH_take (i:=9) (v:=.pointer (some ⟨rb,0,none⟩)) rfl (by kernel_rfl) (by kernel_rfl) (by kernel_rfl) (fun _ _ _ h=>h) (Or.inl ⟨by rfl,fun w hSw=>?_⟩) hHeld ?_
     · (try dsimp only at hSw)
       first|(go_simp;done)|(go_simp;exact hwl)|rfl
     (try simp only[Act.put,qf])
     refine wpAnyH_take (i:=10) (v:=.pointer (some ⟨rb,0,none⟩)) rfl (by kernel_rfl) (by kernel_rfl) (by kernel_rfl) (fun _ _ _ h=>h) (Or.inl ⟨by rfl,fun w hSw=>?_⟩) hHeld ?_
     · (try dsimp only at hSw)
       first|(go_simp;done)|(go_simp;exact hwl)|rfl
     (try simp only[Act.put,qf])
     refine wpAnyH_take (i:=11) (v:=.pointer (some ⟨rb,1,none⟩)) rfl (by kernel_rfl) (by kernel_rfl) (by kernel_rfl) (fun _ _ _ h=>h) (Or.inl ⟨by rfl,fun w hSw=>?_⟩) hHeld ?_
     · (try dsimp only at hSw)
       first|(go_simp;done)|(go_simp;exact hwl)|rfl
     (try simp only[Act.put,qf])
     refine wpAnyH_take (i:=12) (v:=.int .i64 j) rfl (by kernel_rfl) (by kernel_rfl) (by kernel_rfl) (fun _ _ _ h=>h) (Or.inl ⟨by rfl,fun w hSw=>?_⟩) hHeld ?_
     · (try dsimp only at hSw)
       first|(go_simp;done)|(go_simp;exact hwl)|rfl
     (try simp only[Act.put,qf])
     refine wpAnyH_take (i:=13) (v:=.pointer (some ⟨rb,0,none⟩)) rfl (by kernel_rfl) (by kernel_rfl) (by kernel_rfl) (fun _ _ _ h=>h) (Or.inl ⟨by rfl,fun w hSw=>?_⟩) hHeld ?_
     · (try dsimp only at hSw)
       first|(go_simp;done)|(go_simp;exact hwl)|rfl
     (try simp only[Act.put,qf])
     refine wpAnyH_take (i:=14) (v:=.pointer (some ⟨rb,0,none⟩)) rfl (by kernel_rfl) (by kernel_rfl) (by kernel_rfl) (fun _ _ _ h=>h) (Or.inl ⟨by rfl,fun w hSw=>?_⟩) hHeld ?_
     · (try dsimp only at hSw)
       first|(go_simp;done)|(go_simp;exact hwl)|rfl
     (try simp only[Act.put,qf])
     refine wpAnyH_take (i:=15) (v:=.pointer (some ⟨rb,0,none⟩)) rfl (by kernel_rfl) (by kernel_rfl) (by kernel_rfl) (fun _ _ _ h=>h) (Or.inl ⟨by rfl,fun w hSw=>?_⟩) hHeld ?_
     · (try dsimp only at hSw)
       first|(go_simp;done)|(go_simp;exact hwl)|rfl
     (try simp only[Act.put,qf])
     refine wpAnyH_take (i:=16) (v:=.slice Av l.length cv) rfl (by kernel_rfl) (by kernel_rfl) (by kernel_rfl) (fun _ _ _ h=>h) (Or.inl ⟨by rfl,fun w hSw=>?_⟩) hHeld ?_
     · (try dsimp only at hSw)
       first|(go_simp;done)|(go_simp;exact hwl)|rfl
     (try simp only[Act.put,qf])
     refine wpAnyH_take (i:=17) (v:=.int .i64 (l.length:Int)) rfl (by kernel_rfl) (by kernel_rfl) (by kernel_rfl) (fun _ _ _ h=>h) (Or.inl ⟨by rfl,fun w hSw=>?_⟩) hHeld ?_
     · (try dsimp only at hSw)
       first|(go_simp;done)|(go_simp;exact hwl)|rfl
     (try simp only[Act.put,qf])
     refine wpAnyH_take (i:=18) (v:=.int .i64 ((l.length:Int)-1)) rfl (by kernel_rfl) (by kernel_rfl) (by kernel_rfl) (fun _ _ _ h=>h) (Or.inl ⟨by rfl,fun w hSw=>?_⟩) hHeld ?_
     · (try dsimp only at hSw)
       first|(go_simp;done)|(go_simp;exact hwl)|rfl
     (try simp only[Act.put,qf])
     refine wpAnyH_take (i:=19) (v:=.bool false) rfl (by kernel_rfl) (by kernel_rfl) (by kernel_rfl) (fun _ _ _ h=>h) (Or.inl ⟨by rfl,fun w hSw=>?_⟩) hHeld ?_
     · (try dsimp only at hSw)
       first|(go_simp;done)|(go_simp;exact hwl)|rfl
     (try simp only[Act.put,qf])
     refine wpAnyH_take (i:=20) (v:=.bool false) rfl (by kernel_rfl) (by kernel_rfl) (by kernel_rfl) (fun _ _ _ h=>h) (Or.inl ⟨by rfl,fun w hSw=>?_⟩) hHeld ?_
     · (try dsimp only at hSw)
       first|(go_simp;done)|(go_simp;exact hwl)|rfl
     (try simp only[Act.put,qf])
     refine wpAnyH_ready (rs:=[21]) (by kernel_rfl) (by simp) ?_;refine AllReadyH.cons rfl (fun K' hK'=>?_) AllReadyH.nil;have hq6:=HQ5.out.on HB6.out;obtain⟨⟨r0,r1,r2,r3,r4⟩,g0,g1,g2,g3,g4⟩:=c5 hq6;go_simp;refine hK'.out _ _ (qeq (qap hpq _ _ _ _ _) (qap hrq _ _ _ _ _) (HCE.out _ HB6.out)) (fun hHeld=>?_);clear hK' K'
     (try simp only[Act.put,qf])
     refine wpAnyH_take (i:=22) (v:=.bool false) rfl (by kernel_rfl) (by kernel_rfl) (by kernel_rfl) (fun _ _ _ h=>h) (Or.inl ⟨by rfl,fun w hSw=>?_⟩) hHeld ?_
     · (try dsimp only at hSw)
       first|(go_simp;done)|(go_simp;exact hwl)|rfl
     (try simp only[Act.put,qf])
     refine wpAnyH_done (by kernel_rfl) ?_ _;go_wp2_with fail;refine bodyPost_ret (em.qk rfl rfl rfl (qj (HQ5.out.on HB6.out) _ _ _ _ _)) rfl ?_;rw[HP.out];have h6:=(HX5.out.on HB6.out).five (O:=Oq) (Or.inl HA5.out) HQA.out;exact⟨_,_,_,_,_,_,_,rfl,(h6 _ _ _ _ _).rd.rs,(h6 _ _ _ _ _).keep,(h6 _ _ _ _ _).sz⟩
   · exact absurd (hr1.symm.trans HRR.out) (by intro e;cases e)
   · have HM:=qb hm;have HDC:=qb hd1;have HR:=qb hr1;have hen:=qaq l _ _ _ _ hd1;have HIQ:Hid (0≤q∧q≤(l.length:Int)∧(((ns++[d]).length:Nat):Int)≤q):=qb (by have h1:=hen.1;have h2:=hen.2;have h3:=HIP.out;rw[List.length_append];simp;omega);clear hm hd1 hr1 hen;obtain⟨⟨p30,p31,p32,p33,p34⟩,pf30,pf31,pf32,pf33,pf34⟩:=c5 HG.out.bp;obtain⟨⟨q30,q31,q32,q33,q34⟩,qf30,qf31,qf32,qf33,qf34⟩:=c5 HG.out.bq;go_wp2_with fail;refine(qay qbX HG.out.rs HM.out).mono ?_;rintro e w2 ⟨rfl,hb⟩;replace HG:=qb (HG.out.on hb);clear hb p30 p31 p32 p33 p34 pf30 pf31 pf32 pf33 pf34 q30 q31 q32 q33 q34 qf30 qf31 qf32 qf33 qf34;obtain⟨⟨p40,p41,p42,p43,p44⟩,pf40,pf41,pf42,pf43,pf44⟩:=c5 HG.out.bp;obtain⟨⟨q40,q41,q42,q43,q44⟩,qf40,qf41,qf42,qf43,qf44⟩:=c5 HG.out.bq;go_wp2_with fail;refine(qcU HG.out.hx.rd HDC.out).mono ?_;intro e w3 hp;obtain⟨sd,A2,rfl,hsub,hrd,hkk,hss,hkd,hdd⟩:=hp;obtain⟨Ad,cd,rfl,_⟩:=hkd.form;have hg2:=HG.out.kept hkk hss hsub hrd;obtain⟨Ox,hOx⟩:=qc w3.heap.size;obtain⟨Ux,hUx⟩:=qc (w3.alloc (.cells #[.int .i64 d.kind,.int .i64 d.at_,.int .i64 d.num,.string ⟨d.name.toArray⟩,.slice Ad d.kids.length cd] qi));have hb:Below w3.heap.size w3 Ux:=by rw[hUx];exact qd.alloc qe _
     have hxx:Box Ux Ox qi #[.int .i64 d.kind,.int .i64 d.at_,.int .i64 d.num,.string ⟨d.name.toArray⟩,.slice Ad d.kids.length cd]:=by rw[hUx];exact Box.new _ _ _ _ hOx
     have HKX:=qb (HG.out.kid hsub hrd hb hkd);replace HG:=qb (hg2.on hb);have HDd:=qb hdd;have HUx:=qb hUx;have HOx:=qb hOx;obtain⟨⟨x0,x1,x2,x3,x4⟩,xf0,xf1,xf2,xf3,xf4⟩:=c5 hxx;have HAL:Hid (∀b,Dn (Up A2 w3 Ux) (Kp A Op Oq) Ux b→b<Ux.heap.size):=qb fun b q=>q.1;have HBZ:Hid (w0.heap.size≤Ux.heap.size):=qb HG.out.hx.rd.low.size;clear hsub hrd hkk hss hkd hdd hg2 hOx hUx hb hxx p40 p41 p42 p43 p44 pf40 pf41 pf42 pf43 pf44 q40 q41 q42 q43 q44 qf40 qf41 qf42 qf43 qf44;obtain⟨⟨p50,p51,p52,p53,p54⟩,pf50,pf51,pf52,pf53,pf54⟩:=c5 HG.out.bp;obtain⟨⟨q50,q51,q52,q53,q54⟩,qf50,qf51,qf52,qf53,qf54⟩:=c5 HG.out.bq;go_wp2_with (first|(rw[←HUx.out,←HOx.out])|(at_builtin;refine qy rfl _ _ rfl w0.heap.size ns.length ns d (.slice As ns.length cs) _ Ux.heap.size rfl rfl HG.out.row HDd.out HKX.out HAL.out HBZ.out rfl HNL.out rfl ?_;intro A9 c9 w9 ho9 hg9 hr9;have H9:=qb (HG.out.app ho9 hg9);obtain⟨⟨s0,s1,s2,s3,s4⟩,t0,t1,t2,t3,t4⟩:=c5 H9.out.2;obtain⟨V9,hV9⟩:=qc (w9.setCell ⟨Op,4,none⟩ (.slice A9 (ns.length+1) c9));have HG9:=qb (show Pg l v w0 rb A w Op Oq (Up (Up A2 w3 Ux) Ux w9) q none (ns++[d]) (.slice A9 (ns.length+1) c9) V9 from by rw[hV9];exact H9.out.1);have HV9:=qb hV9;clear ho9 hg9 hr9 hV9)|(rw[←HV9.out]))
     go_roundg g1
     case measure=>omega
     case rel=>unfold qbJ;exact⟨_,q,none,ns++[d],A9,c9,HR,HIQ,qb (by simpa using HG9.out)⟩
end Go.Proofs.YtdndfifkfjoffaaGreatDoor.pm.sx
namespace Go.Proofs.YtdndfifkfjoffaaGreatDoor.pm.sx
open Go.RowKit wd lx nt ne pm mem
open vt (I64)
variable{l:List Tk}{v:Value}{w0:World}{rb:Nat}{A:Nat→Prop}{z:Option NT}{w:World}
theorem qh5(h:Rd l v w0 rb A 0 [] z w){r:Res}(hr:qa7 l=r):
   Calls Tryz.prog 52 #[.pointer (some ⟨rb,0,none⟩)] w (WhP l v w0 rb A w r):=by
 obtain⟨rr,hrr⟩:=qfE l (.decls []) 0;have he:=qmn hrr;subst hr;rw[he]
 cases rr with
 |list ns j=>exact absurd (qaq l _ _ _ _ hrr) (fun q=>q)
 |no j=>exact qnC h j _ hrr
 |node n j=>
   show Calls _ _ _ _ (WhP l v w0 rb A w (if j=(l.length:Int)-1∧(qh l j).kind=0 then .node n j else .no j))
   by_cases hc:(qh l j).kind=0
   · by_cases hl:j=(l.length:Int)-1
     · rw[if_pos ⟨hl,hc⟩];exact qmp h n j _ hrr hc hl
     · rw[if_neg (fun q=>hl q.1)];exact qkU h n j _ hrr hc hl
   · rw[if_neg (fun q=>hc q.2)];exact qkT h n j _ hrr hc
end Go.Proofs.YtdndfifkfjoffaaGreatDoor.pm.sx
namespace Go.Proofs.YtdndfifkfjoffaaGreatDoor.pm.sx
open Go.RowKit wd lx nt ne pm mem
open vt (I64 qft qt qv qZ qee Typ qc6)
variable{l:List Tk}{v:Value}{w0:World}{rb:Nat}{A A':Nat→Prop}{i j:Int}{G:List NT}{z:Option NT}{w:World}
theorem qmo(n:NT)(hs:Src l v w)(hf:qcP l)(hL:pm.LD w)(hr:qa7 l=(.node n j)):
   Calls Tryz.prog 17 #[v] w (qcK (.node n j) w):=by
 have he0:em.Env l v w:=⟨hs,hf.good,hf.txt,hL⟩;have hi0:I64 0:=by unfold I64;omega
 obtain⟨Av,cv,rfl⟩:=hs.lies.form;obtain⟨P,hP⟩:=qc (qcK (.node n j) w:Ending→World→Prop);rw[←hP];have HP:=qb hP;clear hP;have HR:=qb hr;have HLEN:=qb hs.len;obtain⟨R,hR⟩:=qc w.heap.size;obtain⟨W,hW⟩:=qc (w.alloc (.cells #[.int .i64 0,.int .i64 0,.int .i64 0,.string ⟨#[]⟩,.slice none 0 0] qi));have hb1:Below w.heap.size w W:=by rw[hW];exact qd.alloc qe _
 have hxr:Box W R qi #[.int .i64 0,.int .i64 0,.int .i64 0,.string ⟨#[]⟩,.slice none 0 0]:=by rw[hW];exact Box.new _ _ _ _ hR
 obtain⟨B,hB⟩:=qc W.heap.size;obtain⟨W2,hW2⟩:=qc (W.alloc (.cells #[.slice Av l.length cv,.int .i64 0,.slice none 0 0,.int .i64 0,.int .i64 0,.int .i64 0,.string ⟨#[]⟩,.slice none 0 0] RdT));have hew:em.Env l (.slice Av l.length cv) W:=⟨he0.src.on hb1,he0.good,he0.txt,he0.ld.on hb1⟩;have hrd:Rd l (.slice Av l.length cv) W B (fun _=>False) 0 [] none W2:=qcB hew hi0 hB hW2;have HRD:=qb hrd;have HBW:=qb hb1;have HXR:=qb hxr;have HRL:Hid (R<W.heap.size):=qb hxr.lt;have HWR:Hid (w.heap.size≤R):=qb (by omega);have hRB:¬R=B:=by have:=hxr.lt;omega
 have hBR:¬B=R:=fun e=>hRB e.symm;have HW:=qb hW;have HRR:=qb hR;have HW2:=qb hW2;have HBB:=qb hB;clear hs hf hL hr he0 hR hW hb1 hxr hB hW2 hew hrd hi0;go_enter Tryz.func17,Tryz.ntmps17
 go_wp2_with (first|(rw[←HW.out,←HRR.out])|(rw[←HW2.out,←HBB.out]));refine(qh5 HRD.out HR.out).mono ?_;intro e w2 hp;obtain⟨s,A2,rfl,_,hrd,_,_,hk,hd⟩:=hp;obtain⟨As,cs,rfl,_⟩:=hk.form;have hrs:=hrd.rs;have HKK:=qb (hk.mono fun b q=>(hrd.ap b q.1).1);have HDN:=qb hd;obtain⟨O,hO⟩:=qc w2.heap.size;obtain⟨X,hX⟩:=qc (w2.alloc (.cells #[.int .i64 n.kind,.int .i64 n.at_,.int .i64 n.num,.string ⟨n.name.toArray⟩,.slice As n.kids.length cs] qi));have hb3:Below w2.heap.size w2 X:=by rw[hX];exact qd.alloc qe _
 have hxx:Box X O qi #[.int .i64 n.kind,.int .i64 n.at_,.int .i64 n.num,.string ⟨n.name.toArray⟩,.slice As n.kids.length cs]:=by rw[hX];exact Box.new _ _ _ _ hO
 replace hrs:=hrs.on hb3;obtain⟨⟨x0,x1,x2,x3,x4⟩,xf0,xf1,xf2,xf3,xf4⟩:=c5 hxx;have HTOLD:=qb (qim n As n.kids.length cs hrs);have HLOW:=qb hrs.low;have HX:=qb hX;have HO:=qb hO;have HKX:=qb (HKK.out.below hb3);clear hrs hb3 hxx hX hO hrd hk hd;go_wp2_with (first|(rw[←HX.out,←HO.out]));refine HTOLD.out.mono ?_;rintro e w5 ⟨rfl,hb5⟩;have hlow5:=HLOW.out.trans (hb5.mono HLOW.out.size);have hbR:=HXR.out.below hlow5 HRL.out;obtain⟨⟨r0,r1,r2,r3,r4⟩,rf0,rf1,rf2,rf3,rf4⟩:=c5 hbR;have HBR5:=qb hbR;have HL5:=qb hlow5;have HK5:=qb (HKX.out.below hb5);clear hbR hlow5 hb5;go_wp2_with fail;refine bodyPost_ret (qaK rfl rfl rfl rfl (qj HBR5.out _ _ _ _ _)) rfl ?_;rw[HP.out];exact⟨_,rfl,(nt.qab HK5.out (fun b q e=>by have:=HRL.out;omega) _ _ _ _ _).mono fun b q=>Nat.le_trans HBW.out.size q,HDN.out,qm (HBW.out.trans (HL5.out.mono HBW.out.size)) HWR.out _ _ _ _ _⟩
theorem qgd(hs:Src l v w)(hf:qcP l)(hL:pm.LD w)(hr:qa7 l=(.no j)):
   Calls Tryz.prog 17 #[v] w (qdT (.no j) w):=by
 have he0:em.Env l v w:=⟨hs,hf.good,hf.txt,hL⟩;have hi0:I64 0:=by unfold I64;omega
 obtain⟨Av,cv,rfl⟩:=hs.lies.form;obtain⟨P,hP⟩:=qc (qdT (.no j) w:Ending→World→Prop);rw[←hP];have HP:=qb hP;clear hP;have HR:=qb hr;have HLEN:=qb hs.len;obtain⟨R,hR⟩:=qc w.heap.size;obtain⟨W,hW⟩:=qc (w.alloc (.cells #[.int .i64 0,.int .i64 0,.int .i64 0,.string ⟨#[]⟩,.slice none 0 0] qi));have hb1:Below w.heap.size w W:=by rw[hW];exact qd.alloc qe _
 have hxr:Box W R qi #[.int .i64 0,.int .i64 0,.int .i64 0,.string ⟨#[]⟩,.slice none 0 0]:=by rw[hW];exact Box.new _ _ _ _ hR
 obtain⟨B,hB⟩:=qc W.heap.size;obtain⟨W2,hW2⟩:=qc (W.alloc (.cells #[.slice Av l.length cv,.int .i64 0,.slice none 0 0,.int .i64 0,.int .i64 0,.int .i64 0,.string ⟨#[]⟩,.slice none 0 0] RdT));have hew:em.Env l (.slice Av l.length cv) W:=⟨he0.src.on hb1,he0.good,he0.txt,he0.ld.on hb1⟩;have hrd:Rd l (.slice Av l.length cv) W B (fun _=>False) 0 [] none W2:=qcB hew hi0 hB hW2;have HRD:=qb hrd;have HBW:=qb hb1;have HXR:=qb hxr;have HRL:Hid (R<W.heap.size):=qb hxr.lt;have HWR:Hid (w.heap.size≤R):=qb (by omega);have hRB:¬R=B:=by have:=hxr.lt;omega
 have hBR:¬B=R:=fun e=>hRB e.symm;have HW:=qb hW;have HRR:=qb hR;have HW2:=qb hW2;have HBB:=qb hB;clear hs hf hL hr he0 hR hW hb1 hxr hB hW2 hew hrd hi0;go_enter Tryz.func17,Tryz.ntmps17
 go_wp2_with (first|(rw[←HW.out,←HRR.out])|(rw[←HW2.out,←HBB.out]));refine(qh5 HRD.out HR.out).mono ?_;intro e w2 hp;obtain⟨vb,vd,ve,vf,vg,vh,vk,rfl,hrs,_,_⟩:=hp;obtain⟨O,hO⟩:=qc w2.heap.size;obtain⟨X,hX⟩:=qc (w2.alloc (.cells #[.int .i64 vb,.int .i64 vd,.int .i64 ve,.string vf,.slice vg vh vk] qi));have hb3:Below w2.heap.size w2 X:=by rw[hX];exact qd.alloc qe _
 have hxx:Box X O qi #[.int .i64 vb,.int .i64 vd,.int .i64 ve,.string vf,.slice vg vh vk]:=by rw[hX];exact Box.new _ _ _ _ hO
 replace hrs:=hrs.on hb3;obtain⟨⟨x0,x1,x2,x3,x4⟩,xf0,xf1,xf2,xf3,xf4⟩:=c5 hxx;have HTOLD:=qb (qjN vb vd ve vf vg vh vk hrs);have HLOW:=qb hrs.low;have HX:=qb hX;have HO:=qb hO;clear hrs hb3 hxx hX hO;go_wp2_with (first|(rw[←HX.out,←HO.out]));refine HTOLD.out.mono ?_;rintro e w5 ⟨rfl,hb5⟩;have hlow5:=HLOW.out.trans (hb5.mono HLOW.out.size);have hbR:=HXR.out.below hlow5 HRL.out;obtain⟨⟨r0,r1,r2,r3,r4⟩,rf0,rf1,rf2,rf3,rf4⟩:=c5 hbR;have HBR5:=qb hbR;have HL5:=qb hlow5;clear hbR hlow5 hb5;go_wp2_with fail;refine bodyPost_ret (qaK rfl rfl rfl rfl (qj HBR5.out _ _ _ _ _)) rfl ?_;rw[HP.out];exact⟨rfl,qm (HBW.out.trans (HL5.out.mono HBW.out.size)) HWR.out _ _ _ _ _⟩
end Go.Proofs.YtdndfifkfjoffaaGreatDoor.pm.sx
namespace Go.Proofs.YtdndfifkfjoffaaGreatDoor.pm
open Go.RowKit wd lx nt ne mem
open vt (I64 qt)
theorem qka{l:List Tk}{v:Value}{w:World}(i:Int)(hs:Src l v w)(hf:qcP l)(hi:I64 i)(hL:LD w):∃f r,qB l f .stmt i=some r∧Calls Tryz.prog 10 #[v,.int .i64 i] w (qdT r w):=by
 obtain⟨r,hr⟩:=qfE l .stmt i
 cases r with
 |node n j=>exact⟨_,_,hr,sx.qlc n hs hf hi hL hr⟩
 |list n j=>exact(qaq l _ _ _ _ hr).elim
 |no j=>exact⟨_,_,hr,sx.qlb hs hf hi hL hr⟩
theorem qj9{l:List Tk}{v:Value}{w:World}(hs:Src l v w)(hf:qcP l)(hL:LD w):Calls Tryz.prog 17 #[v] w (qcK (qa7 l) w):=by
 rcases qbc l with⟨n,j,f,hr,j0,j1,hp⟩|⟨j,f,hr,j0,j1,hp⟩
 · by_cases hc:j=(l.length:Int)-1∧(qh l j).kind=0
   · rw[if_pos hc]at hp;rw[hp];exact sx.qmo n hs hf hL hp
   · rw[if_neg hc]at hp;rw[hp];exact sx.qgd hs hf hL hp
 · rw[hp];exact sx.qgd hs hf hL hp
theorem qch{l:List Tk}{v:Value}{w:World}(hs:Src l v w)(hf:qcP l)(hL:LD w):Calls Tryz.prog 17 #[v] w (qdT (qa7 l) w):=(qj9 hs hf hL).mono fun _ _ h=>qcK.any h
end Go.Proofs.YtdndfifkfjoffaaGreatDoor.pm

/- The package's reader of statements: the node of a declaration, whose kids are read into it. (and what it stands on) -/
import Derived.Test.YtdndfifkfjoffaaGreatDoorZaw
import Derived.Test.YtdndfifkfjoffaaGreatDoorZax
import Derived.Test.YtdndfifkfjoffaaGreatDoorZbd
import Derived.Test.YtdndfifkfjoffaaGreatDoorZaq
import Derived.Test.YtdndfifkfjoffaaGreatDoorZbe
import Derived.Deep.LoopGhost
import Derived.Deep.Onto
import Derived.Test.YtdndfifkfjoffaaGreatDoorZaa
set_option maxRecDepth 100000
set_option maxHeartbeats 4000000
namespace Go.Proofs.YtdndfifkfjoffaaGreatDoor.pm.sx
open Go.RowKit wd lx nt ne pm mem
open vt (I64 qft qt qv qZ qee Typ qc6)
variable{l:List Tk}{v:Value}{w0:World}{rb:Nat}{A A':Nat→Prop}{i j:Int}{G:List NT}{z:Option NT}{w:World}
theorem qgH(h:Rs l v w0 rb i w)(hk:¬(qh l i).kind=1):
   Calls Tryz.prog 105 #[.pointer (some ⟨rb,0,none⟩)] w (fun e w'=>∃(n:NT) (An:Option Addr) (kn cn:Nat),e=.returned (.tuple #[.agg #[.int .i64 n.kind,.int .i64 n.at_,.int .i64 n.num,.string ⟨n.name.toArray⟩,.slice An kn cn],.bool false])∧Mv v rb i (i) w w'):=by
 obtain⟨P,hP⟩:∃P:Ending→World→Prop,P=fun e w'=>∃(n:NT) (An:Option Addr) (kn cn:Nat),e=.returned (.tuple #[.agg #[.int .i64 n.kind,.int .i64 n.at_,.int .i64 n.num,.string ⟨n.name.toArray⟩,.slice An kn cn],.bool false])∧Mv v rb i (i) w w':=⟨_,rfl⟩;rw[←hP];have HP:=qb hP;clear hP;have HLEN:=qb h.env.src.len;have HK:=qb hk;have HJ:=qb h.num;have HMV:Hid (Mv v rb i i w w):=qb (Mv.of qd i);have HS:=qb h;have HRB:=qb h.lt;obtain⟨Oq,hO⟩:=qc w.heap.size;obtain⟨Uq,hU⟩:=qc (w.alloc (.cells #[.int .i64 0,.int .i64 0,.int .i64 0,.string ⟨#[]⟩,.slice none 0 0] qi));have hb:Below w.heap.size w Uq:=by rw[hU];exact qd.alloc qe _
 have HLq:Hid (w.heap.size≤Oq):=qb (by rw[hO];exact HMV.out.grow.size);have hNq:¬Oq=rb:=fun e=>by have h1:=HLq.out;have h2:=HRB.out;omega
 have hMq:¬rb=Oq:=fun e=>hNq e.symm;have HNq:=qb hNq;replace HMV:=qb (HMV.out.trans (Mv.of hb _));replace HS:=qb (HS.out.on hb);have HXq:Hid (Box Uq Oq qi #[.int .i64 0,.int .i64 0,.int .i64 0,.string ⟨#[]⟩,.slice none 0 0]):=qb (by rw[hU];exact Box.new _ _ _ _ hO);have HUq:=qb hU;have HOq:=qb hO;clear hU hO hb;clear h hk;go_enter Tryz.func105,Tryz.ntmps105
 go_wp2_with (first|(rw[←HUq.out,←HOq.out]));refine(qcy HS.out HK.out).mono ?_;rintro e w1 ⟨x,Ax,cx,rfl,hm⟩;replace HMV:=qb (HMV.out.trans hm);replace HS:=qb (HS.out.moved hm HJ.out);replace HXq:=qb (hm.other HXq.out HNq.out);clear hm;obtain⟨Ox,hO⟩:=qc w1.heap.size;obtain⟨Ux,hU⟩:=qc (w1.alloc (.cells #[.int .i64 x.kind,.int .i64 x.at_,.int .i64 x.num,.string ⟨x.name.toArray⟩,.slice Ax 0 cx] qi));have hb:Below w1.heap.size w1 Ux:=by rw[hU];exact qd.alloc qe _
 have HLx:Hid (w.heap.size≤Ox):=qb (by rw[hO];exact HMV.out.grow.size);have hNx:¬Ox=rb:=fun e=>by have h1:=HLx.out;have h2:=HRB.out;omega
 have hMx:¬rb=Ox:=fun e=>hNx e.symm;have HNx:=qb hNx;have hNxq:¬Ox=Oq:=fun e=>by have h1:=HXq.out.lt;omega
 have hNqx:¬Oq=Ox:=fun e=>hNxq e.symm;replace HMV:=qb (HMV.out.trans (Mv.of hb _));replace HS:=qb (HS.out.on hb);replace HXq:=qb (HXq.out.on hb);have HXx:Hid (Box Ux Ox qi #[.int .i64 x.kind,.int .i64 x.at_,.int .i64 x.num,.string ⟨x.name.toArray⟩,.slice Ax 0 cx]):=qb (by rw[hU];exact Box.new _ _ _ _ hO);have HUx:=qb hU;have HOx:=qb hO;clear hU hO hb;obtain⟨⟨xq_0,xq_1,xq_2,xq_3,xq_4⟩,fq_0,fq_1,fq_2,fq_3,fq_4⟩:=c5 HXq.out;go_wp2_with (first|(rw[←HUx.out,←HOx.out]));refine bodyPost_ret (em.qk rfl rfl rfl (qj HXq.out _ _ _ _ _)) rfl ?_;rw[HP.out];exact⟨.mk 0 0 0 [] [],_,_,_,rfl,qaj HMV.out HLq.out HNq.out _ _ _ _ _⟩
theorem qgI(h:Rs l v w0 rb i w)(hk:(qh l i).kind=1)(ht:tyR l (i+1)=.no j)(hj:I64 j):
   Calls Tryz.prog 105 #[.pointer (some ⟨rb,0,none⟩)] w (fun e w'=>∃(n:NT) (An:Option Addr) (kn cn:Nat),e=.returned (.tuple #[.agg #[.int .i64 n.kind,.int .i64 n.at_,.int .i64 n.num,.string ⟨n.name.toArray⟩,.slice An kn cn],.bool false])∧Mv v rb i (j) w w'):=by
 obtain⟨P,hP⟩:∃P:Ending→World→Prop,P=fun e w'=>∃(n:NT) (An:Option Addr) (kn cn:Nat),e=.returned (.tuple #[.agg #[.int .i64 n.kind,.int .i64 n.at_,.int .i64 n.num,.string ⟨n.name.toArray⟩,.slice An kn cn],.bool false])∧Mv v rb i (j) w w':=⟨_,rfl⟩;rw[←hP];have HP:=qb hP;clear hP;have HLEN:=qb h.env.src.len;have HK:=qb hk;have HJ2:=qb hj;have HT:=qb ht;have hin:=qC (l:=l) (i:=i) (by rw[hk];decide);have HJ:Hid (I64 (i+1)):=qb (by have:=HLEN.out;unfold I64;omega);have HFA:=qb (h.env.src.fair i);have HMV:Hid (Mv v rb i i w w):=qb (Mv.of qd i);have HS:=qb h;have HRB:=qb h.lt;obtain⟨Oq,hO⟩:=qc w.heap.size;obtain⟨Uq,hU⟩:=qc (w.alloc (.cells #[.int .i64 0,.int .i64 0,.int .i64 0,.string ⟨#[]⟩,.slice none 0 0] qi));have hb:Below w.heap.size w Uq:=by rw[hU];exact qd.alloc qe _
 have HLq:Hid (w.heap.size≤Oq):=qb (by rw[hO];exact HMV.out.grow.size);have hNq:¬Oq=rb:=fun e=>by have h1:=HLq.out;have h2:=HRB.out;omega
 have hMq:¬rb=Oq:=fun e=>hNq e.symm;have HNq:=qb hNq;replace HMV:=qb (HMV.out.trans (Mv.of hb _));replace HS:=qb (HS.out.on hb);have HXq:Hid (Box Uq Oq qi #[.int .i64 0,.int .i64 0,.int .i64 0,.string ⟨#[]⟩,.slice none 0 0]):=qb (by rw[hU];exact Box.new _ _ _ _ hO);have HUq:=qb hU;have HOq:=qb hO;clear hU hO hb;clear h hk hj ht hin;go_enter Tryz.func105,Tryz.ntmps105
 go_wp2_with (first|(rw[←HUq.out,←HOq.out]));refine(qas HS.out HK.out).mono ?_;rintro e w1 ⟨sx,rfl,hk2,hm⟩;obtain⟨Ax,cx,rfl,_⟩:=hk2.form;replace HMV:=qb (HMV.out.trans hm);replace HS:=qb (HS.out.moved hm HJ.out);replace HXq:=qb (hm.other HXq.out HNq.out);clear hm hk2;obtain⟨nm,hnm⟩:=qc ((qh l i).text);obtain⟨a,ha⟩:=qc ((qh l i).at_);rw[←hnm,←ha]at HFA ⊢;clear hnm ha;simp only[List.length_nil];obtain⟨Ox,hO⟩:=qc w1.heap.size;obtain⟨Ux,hU⟩:=qc (w1.alloc (.cells #[.int .i64 12,.int .i64 a,.int .i64 0,.string ⟨nm.toArray⟩,.slice Ax 0 cx] qi));have hb:Below w1.heap.size w1 Ux:=by rw[hU];exact qd.alloc qe _
 have HLx:Hid (w.heap.size≤Ox):=qb (by rw[hO];exact HMV.out.grow.size);have hNx:¬Ox=rb:=fun e=>by have h1:=HLx.out;have h2:=HRB.out;omega
 have hMx:¬rb=Ox:=fun e=>hNx e.symm;have HNx:=qb hNx;have hNxq:¬Ox=Oq:=fun e=>by have h1:=HXq.out.lt;omega
 have hNqx:¬Oq=Ox:=fun e=>hNxq e.symm;replace HMV:=qb (HMV.out.trans (Mv.of hb _));replace HS:=qb (HS.out.on hb);replace HXq:=qb (HXq.out.on hb);have HXx:Hid (Box Ux Ox qi #[.int .i64 12,.int .i64 a,.int .i64 0,.string ⟨nm.toArray⟩,.slice Ax 0 cx]):=qb (by rw[hU];exact Box.new _ _ _ _ hO);have HUx:=qb hU;have HOx:=qb hO;clear hU hO hb;go_wp2_with (first|(rw[←HUx.out,←HOx.out]));refine(qdR HS.out HT.out).mono ?_;rintro e w1 ⟨rfl,hm⟩;replace HMV:=qb (HMV.out.trans hm);replace HS:=qb (HS.out.moved hm HJ2.out);replace HXq:=qb (hm.other HXq.out HNq.out);replace HXx:=qb (hm.other HXx.out HNx.out);clear hm;obtain⟨⟨p1xx_0,p1xx_1,p1xx_2,p1xx_3,p1xx_4⟩,p1fx_0,p1fx_1,p1fx_2,p1fx_3,p1fx_4⟩:=c5 HXx.out;obtain⟨Ot,hO⟩:=qc w1.heap.size;obtain⟨Ut,hU⟩:=qc (w1.alloc (.cells #[.int .i64 0,.int .i64 0,.int .i64 0,.string ⟨#[]⟩,.slice none 0 0] qi));have hb:Below w1.heap.size w1 Ut:=by rw[hU];exact qd.alloc qe _
 have HLt:Hid (w.heap.size≤Ot):=qb (by rw[hO];exact HMV.out.grow.size);have hNt:¬Ot=rb:=fun e=>by have h1:=HLt.out;have h2:=HRB.out;omega
 have hMt:¬rb=Ot:=fun e=>hNt e.symm;have HNt:=qb hNt;have hNtq:¬Ot=Oq:=fun e=>by have h1:=HXq.out.lt;omega
 have hNqt:¬Oq=Ot:=fun e=>hNtq e.symm;have hNtx:¬Ot=Ox:=fun e=>by have h1:=HXx.out.lt;omega
 have hNxt:¬Ox=Ot:=fun e=>hNtx e.symm;replace HMV:=qb (HMV.out.trans (Mv.of hb _));replace HS:=qb (HS.out.on hb);replace HXq:=qb (HXq.out.on hb);replace HXx:=qb (HXx.out.on hb);have HXt:Hid (Box Ut Ot qi #[.int .i64 0,.int .i64 0,.int .i64 0,.string ⟨#[]⟩,.slice none 0 0]):=qb (by rw[hU];exact Box.new _ _ _ _ hO);have HUt:=qb hU;have HOt:=qb hO;clear hU hO hb;obtain⟨⟨p2xx_0,p2xx_1,p2xx_2,p2xx_3,p2xx_4⟩,p2fx_0,p2fx_1,p2fx_2,p2fx_3,p2fx_4⟩:=c5 HXx.out;obtain⟨⟨p2xt_0,p2xt_1,p2xt_2,p2xt_3,p2xt_4⟩,p2ft_0,p2ft_1,p2ft_2,p2ft_3,p2ft_4⟩:=c5 HXt.out;obtain⟨W5,hW5⟩:=qc (nt.five Ut Ot (.int .i64 0) (.int .i64 0) (.int .i64 0) (.string ⟨#[]⟩) (.slice none 0 0));replace HMV:=qb (show Mv v rb i j w W5 from by rw[hW5];exact qaj HMV.out HLt.out HNt.out _ _ _ _ _);replace HXx:=qb (show Box W5 Ox qi _ from by rw[hW5];exact em.qae HXx.out hNxt _ _ _ _ _);replace HXq:=qb (show Box W5 Oq qi _ from by rw[hW5];exact em.qae HXq.out hNqt _ _ _ _ _);replace HXt:=qb (show Box W5 Ot qi _ from by rw[hW5];exact nt.qj HXt.out _ _ _ _ _);have HW5:=qb hW5;unfold nt.five at HW5;clear hW5 HS;obtain⟨⟨p3xx_0,p3xx_1,p3xx_2,p3xx_3,p3xx_4⟩,p3fx_0,p3fx_1,p3fx_2,p3fx_3,p3fx_4⟩:=c5 HXx.out;obtain⟨⟨p3xt_0,p3xt_1,p3xt_2,p3xt_3,p3xt_4⟩,p3ft_0,p3ft_1,p3ft_2,p3ft_3,p3ft_4⟩:=c5 HXt.out;obtain⟨Ow,hO⟩:=qc W5.heap.size;obtain⟨Uw,hU⟩:=qc (W5.alloc (.cells #[.int .i64 0,.int .i64 0,.int .i64 0,.string ⟨#[]⟩,.slice none 0 0] qi));have hb:Below W5.heap.size W5 Uw:=by rw[hU];exact qd.alloc qe _
 replace HMV:=qb (HMV.out.trans (Mv.of hb _));replace HXq:=qb (HXq.out.on hb);have HUw:=qb hU;have HOw:=qb hO;clear hU hO hb;obtain⟨⟨xq_0,xq_1,xq_2,xq_3,xq_4⟩,fq_0,fq_1,fq_2,fq_3,fq_4⟩:=c5 HXq.out;go_wp2_with (first|(rw[←HUt.out,←HOt.out])|(rw[←HW5.out])|(rw[←HUw.out,←HOw.out]));refine bodyPost_ret (em.qk rfl rfl rfl (qj HXq.out _ _ _ _ _)) rfl ?_;rw[HP.out];exact⟨.mk 50 a 0 nm [],_,_,_,rfl,qaj HMV.out HLq.out HNq.out _ _ _ _ _⟩
theorem qkM(h:Rs l v w0 rb i w)(hk:(qh l i).kind=1)(n:NT)(ht:tyR l (i+1)=.node n j)(hj:I64 j):
   Calls Tryz.prog 105 #[.pointer (some ⟨rb,0,none⟩)] w (fun e w'=>∃s,e=.returned (.tuple #[.agg #[.int .i64 ((.mk 50 (qh l i).at_ 0 (qh l i).text [n]:NT)).kind,.int .i64 ((.mk 50 (qh l i).at_ 0 (qh l i).text [n]:NT)).at_,.int .i64 ((.mk 50 (qh l i).at_ 0 (qh l i).text [n]:NT)).num,.string ⟨((.mk 50 (qh l i).at_ 0 (qh l i).text [n]:NT)).name.toArray⟩,s],.bool true])∧nt.ql (fun b=>w.heap.size≤b) w' ((.mk 50 (qh l i).at_ 0 (qh l i).text [n]:NT)).kids s∧Hd (.mk 50 (qh l i).at_ 0 (qh l i).text [n])∧Mv v rb i (j) w w'):=by
 obtain⟨P,hP⟩:∃P:Ending→World→Prop,P=fun e w'=>∃s,e=.returned (.tuple #[.agg #[.int .i64 ((.mk 50 (qh l i).at_ 0 (qh l i).text [n]:NT)).kind,.int .i64 ((.mk 50 (qh l i).at_ 0 (qh l i).text [n]:NT)).at_,.int .i64 ((.mk 50 (qh l i).at_ 0 (qh l i).text [n]:NT)).num,.string ⟨((.mk 50 (qh l i).at_ 0 (qh l i).text [n]:NT)).name.toArray⟩,s],.bool true])∧nt.ql (fun b=>w.heap.size≤b) w' ((.mk 50 (qh l i).at_ 0 (qh l i).text [n]:NT)).kids s∧Hd (.mk 50 (qh l i).at_ 0 (qh l i).text [n])∧Mv v rb i (j) w w':=⟨_,rfl⟩;rw[←hP];have HP:=qb hP;clear hP;have HLEN:=qb h.env.src.len;have HK:=qb hk;have HJ2:=qb hj;have HT:=qb ht;have hin:=qC (l:=l) (i:=i) (by rw[hk];decide);have HJ:Hid (I64 (i+1)):=qb (by have:=HLEN.out;unfold I64;omega);have HFA:=qb (h.env.src.fair i);have HMV:Hid (Mv v rb i i w w):=qb (Mv.of qd i);have HS:=qb h;have HRB:=qb h.lt;obtain⟨Oq,hO⟩:=qc w.heap.size;obtain⟨Uq,hU⟩:=qc (w.alloc (.cells #[.int .i64 0,.int .i64 0,.int .i64 0,.string ⟨#[]⟩,.slice none 0 0] qi));have hb:Below w.heap.size w Uq:=by rw[hU];exact qd.alloc qe _
 have HLq:Hid (w.heap.size≤Oq):=qb (by rw[hO];exact HMV.out.grow.size);have hNq:¬Oq=rb:=fun e=>by have h1:=HLq.out;have h2:=HRB.out;omega
 have hMq:¬rb=Oq:=fun e=>hNq e.symm;have HNq:=qb hNq;replace HMV:=qb (HMV.out.trans (Mv.of hb _));replace HS:=qb (HS.out.on hb);have HXq:Hid (Box Uq Oq qi #[.int .i64 0,.int .i64 0,.int .i64 0,.string ⟨#[]⟩,.slice none 0 0]):=qb (by rw[hU];exact Box.new _ _ _ _ hO);have HUq:=qb hU;have HOq:=qb hO;clear hU hO hb;clear h hk hj ht hin;go_enter Tryz.func105,Tryz.ntmps105
 go_wp2_with (first|(rw[←HUq.out,←HOq.out]));refine(qas HS.out HK.out).mono ?_;rintro e w1 ⟨sx,rfl,hk2,hm⟩;obtain⟨Ax,cx,rfl,_⟩:=hk2.form;replace HMV:=qb (HMV.out.trans hm);replace HS:=qb (HS.out.moved hm HJ.out);replace HXq:=qb (hm.other HXq.out HNq.out);clear hm hk2;obtain⟨nm,hnm⟩:=qc ((qh l i).text);obtain⟨a,ha⟩:=qc ((qh l i).at_);rw[←hnm,←ha]at HP HFA ⊢;clear hnm ha;simp only[List.length_nil];obtain⟨Ox,hO⟩:=qc w1.heap.size;obtain⟨Ux,hU⟩:=qc (w1.alloc (.cells #[.int .i64 12,.int .i64 a,.int .i64 0,.string ⟨nm.toArray⟩,.slice Ax 0 cx] qi));have hb:Below w1.heap.size w1 Ux:=by rw[hU];exact qd.alloc qe _
 have HLx:Hid (w.heap.size≤Ox):=qb (by rw[hO];exact HMV.out.grow.size);have hNx:¬Ox=rb:=fun e=>by have h1:=HLx.out;have h2:=HRB.out;omega
 have hMx:¬rb=Ox:=fun e=>hNx e.symm;have HNx:=qb hNx;have hNxq:¬Ox=Oq:=fun e=>by have h1:=HXq.out.lt;omega
 have hNqx:¬Oq=Ox:=fun e=>hNxq e.symm;replace HMV:=qb (HMV.out.trans (Mv.of hb _));replace HS:=qb (HS.out.on hb);replace HXq:=qb (HXq.out.on hb);have HXx:Hid (Box Ux Ox qi #[.int .i64 12,.int .i64 a,.int .i64 0,.string ⟨nm.toArray⟩,.slice Ax 0 cx]):=qb (by rw[hU];exact Box.new _ _ _ _ hO);have HUx:=qb hU;have HOx:=qb hO;clear hU hO hb;go_wp2_with (first|(rw[←HUx.out,←HOx.out]));have hzc:=HMV.out.grow.size;have hrl:=HXq.out.lt;refine(qbd n HS.out HT.out).mono ?_;rintro e w2 ⟨sn,rfl,hk,hd,hm⟩;obtain⟨An,cn,rfl,_⟩:=hk.form;replace HMV:=qb (HMV.out.trans hm);replace HS:=qb (HS.out.moved hm HJ2.out);replace HXq:=qb (hm.other HXq.out HNq.out);replace HXx:=qb (hm.other HXx.out HNx.out);have HDn:=qb hd;have HKn:=qb (show nt.ql (fun b=>w.heap.size≤b∧b≠Oq) w2 n.kids (.slice An n.kids.length cn) from hk.mono fun b q=>⟨Nat.le_trans hzc q,fun e=>by have h1:=hrl;have h2:_≤b:=q;omega⟩);have HQn:Hid (∀b,w.heap.size≤b∧b≠Oq→b≠rb):=qb (fun b q e=>by have h1:=q.1;have h2:=HRB.out;omega);clear hm hk hd hzc hrl;obtain⟨⟨p1xx_0,p1xx_1,p1xx_2,p1xx_3,p1xx_4⟩,p1fx_0,p1fx_1,p1fx_2,p1fx_3,p1fx_4⟩:=c5 HXx.out;obtain⟨Ot,hO⟩:=qc w2.heap.size;obtain⟨Ut,hU⟩:=qc (w2.alloc (.cells #[.int .i64 n.kind,.int .i64 n.at_,.int .i64 n.num,.string ⟨n.name.toArray⟩,.slice An n.kids.length cn] qi));have hb:Below w2.heap.size w2 Ut:=by rw[hU];exact qd.alloc qe _
 have HLt:Hid (w.heap.size≤Ot):=qb (by rw[hO];exact HMV.out.grow.size);have hNt:¬Ot=rb:=fun e=>by have h1:=HLt.out;have h2:=HRB.out;omega
 have hMt:¬rb=Ot:=fun e=>hNt e.symm;have HNt:=qb hNt;have hNtq:¬Ot=Oq:=fun e=>by have h1:=HXq.out.lt;omega
 have hNqt:¬Oq=Ot:=fun e=>hNtq e.symm;have hNtx:¬Ot=Ox:=fun e=>by have h1:=HXx.out.lt;omega
 have hNxt:¬Ox=Ot:=fun e=>hNtx e.symm;replace HMV:=qb (HMV.out.trans (Mv.of hb _));replace HS:=qb (HS.out.on hb);replace HXq:=qb (HXq.out.on hb);replace HXx:=qb (HXx.out.on hb);replace HKn:=qb (HKn.out.below hb);have HXt:Hid (Box Ut Ot qi #[.int .i64 n.kind,.int .i64 n.at_,.int .i64 n.num,.string ⟨n.name.toArray⟩,.slice An n.kids.length cn]):=qb (by rw[hU];exact Box.new _ _ _ _ hO);have HUt:=qb hU;have HOt:=qb hO;clear hU hO hb;obtain⟨⟨p2xx_0,p2xx_1,p2xx_2,p2xx_3,p2xx_4⟩,p2fx_0,p2fx_1,p2fx_2,p2fx_3,p2fx_4⟩:=c5 HXx.out;obtain⟨⟨p2xt_0,p2xt_1,p2xt_2,p2xt_3,p2xt_4⟩,p2ft_0,p2ft_1,p2ft_2,p2ft_3,p2ft_4⟩:=c5 HXt.out;obtain⟨Ow,hO⟩:=qc Ut.heap.size;obtain⟨Uw,hU⟩:=qc (Ut.alloc (.cells #[.int .i64 n.kind,.int .i64 n.at_,.int .i64 n.num,.string ⟨n.name.toArray⟩,.slice An n.kids.length cn] qi));have hb:Below Ut.heap.size Ut Uw:=by rw[hU];exact qd.alloc qe _
 have hsz:=HMV.out.grow.size;have hkr:nt.ql (fun b=>w.heap.size≤b∧b≠Oq) Uw [n] (.slice (some ⟨Ow,0,none⟩) 1 1):=by rw[hU];exact qcC hO HDn.out HKn.out (⟨by rw[hO];exact hsz,fun e=>by have:=HXq.out.lt;omega⟩)
 have hNwq:¬Ow=Oq:=fun e=>by have h1:=HXq.out.lt;omega
 have hNqw:¬Oq=Ow:=fun e=>hNwq e.symm;have hNwx:¬Ow=Ox:=fun e=>by have h1:=HXx.out.lt;omega
 have hNxw:¬Ox=Ow:=fun e=>hNwx e.symm;have hNwt:¬Ow=Ot:=fun e=>by have h1:=HXt.out.lt;omega
 have hNtw:¬Ot=Ow:=fun e=>hNwt e.symm;replace HMV:=qb (HMV.out.trans (Mv.of hb _));replace HS:=qb (HS.out.on hb);replace HXq:=qb (HXq.out.on hb);replace HXx:=qb (HXx.out.on hb);replace HXt:=qb (HXt.out.on hb);replace HKn:=qb (HKn.out.below hb);have HKw:=qb hkr;have HUw:=qb hU;have HOw:=qb hO;clear hU hO hb hkr hsz;have HQw:=HQn;obtain⟨⟨xq_0,xq_1,xq_2,xq_3,xq_4⟩,fq_0,fq_1,fq_2,fq_3,fq_4⟩:=c5 HXq.out;obtain⟨⟨xx_0,xx_1,xx_2,xx_3,xx_4⟩,fx_0,fx_1,fx_2,fx_3,fx_4⟩:=c5 HXx.out;obtain⟨⟨xt_0,xt_1,xt_2,xt_3,xt_4⟩,ft_0,ft_1,ft_2,ft_3,ft_4⟩:=c5 HXt.out;go_wp2_with (first|(rw[←HUt.out,←HOt.out])|(rw[←HUw.out,←HOw.out]));refine bodyPost_ret (em.qk rfl rfl rfl (qj HXq.out _ _ _ _ _)) rfl ?_;rw[HP.out];exact⟨_,rfl,(nt.qab HKw.out (fun b q=>q.2) _ _ _ _ _).mono fun b q=>q.1,⟨by show I64 50;unfold I64;omega,HFA.out.1,by show I64 0;unfold I64;omega,HFA.out.2.2⟩,qaj HMV.out HLq.out HNq.out _ _ _ _ _⟩
def PaP(v:Value)(rb:Nat)(i:Int)(w:World)(r:Res)(e:Ending)(w':World):Prop:=
 match r with
 |.node n j=>∃s,e=.returned (.tuple #[.agg #[.int .i64 n.kind,.int .i64 n.at_,.int .i64 n.num,.string ⟨n.name.toArray⟩,s],.bool true])∧nt.ql (fun b=>w.heap.size≤b) w' n.kids s∧Hd n∧Mv v rb i j w w'
 |.no j=>∃(n:NT) (An:Option Addr) (kn cn:Nat),e=.returned (.tuple #[.agg #[.int .i64 n.kind,.int .i64 n.at_,.int .i64 n.num,.string ⟨n.name.toArray⟩,.slice An kn cn],.bool false])∧Mv v rb i j w w'
 |.list _ _=>False
theorem qbQ(h:Rs l v w0 rb i w)(hi:i≤(l.length:Int)):Calls Tryz.prog 105 #[.pointer (some ⟨rb,0,none⟩)] w (PaP v rb i w (paR l i)):=by
 unfold paR;by_cases hk:(qh l i).kind=1
 · rw[if_pos hk];have hin:=qC (l:=l) (i:=i) (by rw[hk];decide);have he:=qdc l (i+1);have hlen:=h.env.src.len
   cases ht:tyR l (i+1)with
   |node n j=>rw[ht]at he;exact qkM h hk n ht (by unfold I64;have h1:=he.2.1;have h2:=he.2.2.1 (by omega);omega)
   |no j=>rw[ht]at he;exact qgI h hk ht (by unfold I64;have h1:=he.1;have h2:=he.2 (by omega);omega)
   |list ns j=>rw[ht]at he;exact absurd he.1 (by simp[qL.lists])
 · rw[if_neg hk];exact qgH h hk
def qa0(l:List Tk)(i:Int):Int:=if pm.isW l i qic=true then 51 else if pm.isW l i qib=true then 52 else if pm.isW l i qh9=true then 53 else if pm.isW l i qc5=true then 54 else 0
theorem qcq(h:Rs l v w0 rb i w):
   Calls Tryz.prog 74 #[.pointer (some ⟨rb,0,none⟩)] w (fun e w'=>e=.returned (.int .i64 (qa0 l i))∧Mv v rb i (if qa0 l i=0 then i else i+1) w w'):=by
 obtain⟨P,hP⟩:∃P:Ending→World→Prop,P=fun e w'=>e=.returned (.int .i64 (qa0 l i))∧Mv v rb i (if qa0 l i=0 then i else i+1) w w':=⟨_,rfl⟩;rw[←hP];have HP:=qb hP;clear hP;have HLEN:=qb h.env.src.len;have HI0:=qb h.num;unfold qa0 at HP;have HMV:Hid (Mv v rb i i w w):=qb (Mv.of qd i);have HS:=qb h;have HRB:=qb h.lt;clear h;go_enter Tryz.func74,Tryz.ntmps74
 cases h0:pm.isW l i qic with
 |true=>
     rw[h0]at HP;have HM:=qb h0;have hin:=qQ h0;have HJ:Hid (I64 (i+1)):=qb (by have:=HLEN.out;unfold I64;omega);clear h0 hin;go_wp2_with fail;refine(qal qic HS.out HM.out).mono ?_;rintro e w1 ⟨rfl,hm⟩;replace HMV:=qb (HMV.out.trans hm);replace HS:=qb (HS.out.moved hm HJ.out);clear hm;go_wp2_with fail;try go_ret
     rw[HP.out];refine⟨rfl,?_⟩
     simpa using HMV.out
 |false=>
   rw[h0]at HP;have HM0:=qb h0;clear h0;go_wp2_with fail;refine(qay qic HS.out HM0.out).mono ?_;rintro e w1 ⟨rfl,hb⟩;replace HMV:=qb (HMV.out.trans (Mv.of hb _));replace HS:=qb (HS.out.on hb);clear hb
   cases h1:pm.isW l i qib with
   |true=>
       rw[h1]at HP;have HM:=qb h1;have hin:=qQ h1;have HJ:Hid (I64 (i+1)):=qb (by have:=HLEN.out;unfold I64;omega);clear h1 hin;go_wp2_with fail;refine(qal qib HS.out HM.out).mono ?_;rintro e w2 ⟨rfl,hm⟩;replace HMV:=qb (HMV.out.trans hm);replace HS:=qb (HS.out.moved hm HJ.out);clear hm;go_wp2_with fail;try go_ret
       rw[HP.out];refine⟨rfl,?_⟩
       simpa using HMV.out
   |false=>
     rw[h1]at HP;have HM1:=qb h1;clear h1;go_wp2_with fail;refine(qay qib HS.out HM1.out).mono ?_;rintro e w2 ⟨rfl,hb⟩;replace HMV:=qb (HMV.out.trans (Mv.of hb _));replace HS:=qb (HS.out.on hb);clear hb
     cases h2:pm.isW l i qh9 with
     |true=>
         rw[h2]at HP;have HM:=qb h2;have hin:=qQ h2;have HJ:Hid (I64 (i+1)):=qb (by have:=HLEN.out;unfold I64;omega);clear h2 hin;go_wp2_with fail;refine(qal qh9 HS.out HM.out).mono ?_;rintro e w3 ⟨rfl,hm⟩;replace HMV:=qb (HMV.out.trans hm);replace HS:=qb (HS.out.moved hm HJ.out);clear hm;go_wp2_with fail;try go_ret
         rw[HP.out];refine⟨rfl,?_⟩
         simpa using HMV.out
     |false=>
       rw[h2]at HP;have HM2:=qb h2;clear h2;go_wp2_with fail;refine(qay qh9 HS.out HM2.out).mono ?_;rintro e w3 ⟨rfl,hb⟩;replace HMV:=qb (HMV.out.trans (Mv.of hb _));replace HS:=qb (HS.out.on hb);clear hb
       cases h3:pm.isW l i qc5 with
       |true=>
           rw[h3]at HP;have HM:=qb h3;have hin:=qQ h3;have HJ:Hid (I64 (i+1)):=qb (by have:=HLEN.out;unfold I64;omega);clear h3 hin;go_wp2_with fail;refine(qal qc5 HS.out HM.out).mono ?_;rintro e w4 ⟨rfl,hm⟩;replace HMV:=qb (HMV.out.trans hm);replace HS:=qb (HS.out.moved hm HJ.out);clear hm;go_wp2_with fail;try go_ret
           rw[HP.out];refine⟨rfl,?_⟩
           simpa using HMV.out
       |false=>
         rw[h3]at HP;have HM3:=qb h3;clear h3;go_wp2_with fail;refine(qay qc5 HS.out HM3.out).mono ?_;rintro e w4 ⟨rfl,hb⟩;replace HMV:=qb (HMV.out.trans (Mv.of hb _));replace HS:=qb (HS.out.on hb);clear hb;go_wp2_with fail;try go_ret
         rw[HP.out];refine⟨rfl,?_⟩;simpa using HMV.out
end Go.Proofs.YtdndfifkfjoffaaGreatDoor.pm.sx
namespace Go.Proofs.YtdndfifkfjoffaaGreatDoor.pm.sx
open Go.RowKit wd lx nt ne pm mem
open vt (I64 qft qt qv qZ qee Typ qc6)
variable{l:List Tk}{v:Value}{w0:World}{rb:Nat}{A A':Nat→Prop}{i j:Int}{G:List NT}{z:Option NT}{w X Y:World}
theorem Mv.grown2(m:Mv v rb i j w X){row:Option Nat}(hg:X.grownBy Y row)(hr:∀k,row=some k→w.heap.size≤k∧k≠rb):Mv v rb i j w Y:=
 ⟨⟨hg.os.trans m.grow.os,hg.tape.trans m.grow.tape,hg.output.trans m.grow.output,Nat.le_trans m.grow.size hg.size,fun k hk hn=>(hg.block k (Nat.lt_of_lt_of_le hk m.grow.size) fun e=>by have:=(hr k e.symm).1;omega).trans (m.grow.block k hk hn)⟩,fun _ _ _ _ _ _ q=>(m.box _ _ _ _ _ _ q).grown hg fun e=>(hr rb e.symm).2 rfl⟩
abbrev qlk(w:World)(X:World)(ns:List NT)(s:Value):Prop:=qP w.heap.size (fun b=>b<w.heap.size) X ns s
theorem qeW{ns:List NT}{s:Value}(h:qlk w X ns s)(m:Mv v rb i j X Y)(hrb:rb<w.heap.size):qlk w Y ns s:=by
 obtain⟨vs,hv,ho,hk⟩:=h;refine⟨vs,hv.carry fun b o u q hc=>⟨q,(World.cell?_of_block (w:=X) (w':=Y) (a:=⟨b,o,none⟩) (m.grow.block b (World.block_lt_of_cell? _ _ hc) fun e=>?_)).trans hc⟩,qZ ho fun k e=>m.grow.block k (ho.lt k e).2 fun e2=>?_,hk⟩
 · injection e with e;exact q.2.2 (by omega)
 · injection e2 with e2;exact hk k e (by omega)
def qoD(v:Value)(rb:Nat)(i:Int)(w:World)(r:Res)(e:Ending)(w':World):Prop:=
 match r with
 |.list ns j=>∃s,e=.returned (.tuple #[s,.bool true])∧qlk w w' ns s∧Mv v rb i j w w'
 |.no j=>∃s,e=.returned (.tuple #[s,.bool false])∧Mv v rb i j w w'
 |.node _ _=>False
def qe2(l:List Tk)(v:Value)(w0:World)(rb:Nat)(i:Int)(w:World)(rl:Res)(g:Nat)(va:Value)(wr:World):Prop:=
 ∃p ns,Hid (qbH l g p ns=some rl)∧Hid (0≤p∧p≤(l.length:Int)∧(ns.length:Int)≤p)∧Hid (Mv v rb i p w wr)∧Hid (Rs l v w0 rb p wr)∧Hid (qlk w wr ns va)
theorem qcA(h:Rs l v w0 rb i w)(hi:i≤(l.length:Int))(hm:isM l i [40]=true)(rl:Res)(k:Nat)(hp:qbH l k (i+1) []=some rl):
   Calls Tryz.prog 108 #[.pointer (some ⟨rb,0,none⟩)] w (qoD v rb i w rl):=by
 obtain⟨P,hP⟩:=qc (qoD v rb i w rl:Ending→World→Prop);rw[←hP];have HP:=qb hP;clear hP;have HLEN:=qb h.env.src.len;have HRB:=qb h.lt;have HS0:=qb h;have HM0:=qb hm;have hin:=qu hm;have HJ:Hid (I64 (i+1)):=qb (by have:=HLEN.out;unfold I64;omega);have HPF:=qb hp;have HIN:Hid (0≤i+1∧i+1≤(l.length:Int)):=qb (by omega);clear h hi hm hp hin;go_enter Tryz.func108,Tryz.ntmps108
 go_wp2_with fail;refine(qac [40] HS0.out HM0.out).mono ?_;rintro e w1 ⟨rfl,hm⟩;have HREL:Hid (qe2 l v w0 rb i w rl k (.slice none 0 0) w1):=qb ⟨i+1,[],HPF,qb ⟨HIN.out.1,HIN.out.2,by simp;exact HIN.out.1⟩,qb hm,qb (HS0.out.moved hm HJ.out),qb (qaZ _ _ _)⟩;clear hm;go_wp2_with fail
 go_loopg [4] k (fun g va wr=>qe2 l v w0 rb i w rl g va wr)
 case atStart=>exact HREL.out
 case round=>
   unfold qe2 at hrel;obtain⟨p,ns,HPL,HIP,HMV,HS,HROW⟩:=hrel
   obtain⟨g1,hg1⟩:∃g1,gk=g1+1:=by
     cases gk with
     |zero=>have q:=HPL.out;rw[qbH]at q;cases q
     |succ g1=>exact⟨g1,rfl⟩
   subst hg1;have hpl:=HPL.out;rw[qbH]at hpl;obtain⟨As,cs,rfl⟩:=HROW.out.form;have HIP2:=HIP.out
   cases h1:isM l p [41]with
   |true=>
     rw[if_pos h1]at hpl;have HEN:Hid (.list ns (p+1)=rl):=qb (by injection hpl);have HM:=qb h1;have hin:=qu h1;have HJ2:Hid (I64 (p+1)):=qb (by have:=HLEN.out;unfold I64;omega);clear hpl h1 hin HIP2;go_wp2_with fail;refine(qac [41] HS.out HM.out).mono ?_;rintro e w2 ⟨rfl,hm⟩;replace HMV:=qb (HMV.out.trans hm);replace HS:=qb (HS.out.moved hm HJ2.out);replace HROW:=qb (qeW HROW.out hm HRB.out);clear hm;go_wp2_with fail;try go_ret2
     rw[HP.out,←HEN.out]
     exact⟨_,rfl,HROW.out,HMV.out⟩
   |false=>
     rw[if_neg (by rw[h1];decide)]at hpl;have HM:=qb h1;clear h1;by_cases h2:ns=[]
     · rw[if_pos h2]at hpl;have hnl2:¬(0:Int)<(ns.length:Int):=by rw[h2];decide
       clear h2;go_wp2_with fail;refine(qai [41] HS.out HM.out).mono ?_;rintro e w2 ⟨rfl,hb⟩;replace HMV:=qb (HMV.out.trans (Mv.of hb _));replace HS:=qb (HS.out.on hb);replace HROW:=qb (HROW.out.below hb);clear hb;have hpe:=qcz l (p) (by omega) (by omega);go_wp2_with fail;have hpc:=qbQ HS.out (show p≤(l.length:Int) by omega)
       cases hx:paR l (p)with
       |list ms q=>rw[hx]at hpe;exact hpe.elim
       |no q=>
         rw[hx]at hpl hpc hpe;have HEN:Hid (.no q=rl):=qb (by cases hpl;rfl);clear hpl hx hpe HIP2;refine hpc.mono ?_;rintro e w5 ⟨x,Ax,kx,cx,rfl,hm⟩;replace HMV:=qb (HMV.out.trans hm);clear hm hpc;obtain⟨Ox,hOx⟩:=qc w5.heap.size;obtain⟨Ux,hUx⟩:=qc (w5.alloc (.cells #[.int .i64 x.kind,.int .i64 x.at_,.int .i64 x.num,.string ⟨x.name.toArray⟩,.slice Ax kx cx] qi));have hb:Below w5.heap.size w5 Ux:=by rw[hUx];exact qd.alloc qe _
         replace HMV:=qb (HMV.out.trans (Mv.of hb _));have HUx:=qb hUx;have HOx:=qb hOx;clear hUx hOx hb;go_wp2_with (first|(rw[←HUx.out,←HOx.out]));try go_ret2
         rw[HP.out,←HEN.out]
         exact⟨_,rfl,HMV.out⟩
       |node x q=>
         rw[hx]at hpl hpc hpe;have hpl:qbH l g1 q (ns++[x])=some rl:=hpl;have HEN:=qb hpl;have HIQ:Hid (0≤q∧q≤(l.length:Int)∧(((ns++[x]).length:Nat):Int)≤q):=qb (by rw[List.length_append];have h1:=hpe.1;have h2:=hpe.2;simp;omega);have HJQ:Hid (I64 q):=qb (by have:=HLEN.out;have h2:=HIQ.out;unfold I64;omega);have HNL:Hid (ns.length≤1099511627776):=qb (by have:=HLEN.out;omega);clear hpl hx hpe HIP2;have HZC:=qb HMV.out.grow.size;have HRL:=qb (fun k (e:(Value.slice As ns.length cs).ownBlock=some k)=>(HROW.out.lt k e));refine hpc.mono ?_;rintro e w5 ⟨sx,rfl,hk,hd,hm⟩;obtain⟨Ax,cx,rfl,_⟩:=hk.form;replace HMV:=qb (HMV.out.trans hm);replace HS:=qb (HS.out.moved hm HJQ.out);replace HROW:=qb (qeW HROW.out hm HRB.out);obtain⟨Ox,hOx⟩:=qc w5.heap.size;obtain⟨Ux,hUx⟩:=qc (w5.alloc (.cells #[.int .i64 x.kind,.int .i64 x.at_,.int .i64 x.num,.string ⟨x.name.toArray⟩,.slice Ax x.kids.length cx] qi));have hb:Below w5.heap.size w5 Ux:=by rw[hUx];exact qd.alloc qe _
         have hxx:Box Ux Ox qi #[.int .i64 x.kind,.int .i64 x.at_,.int .i64 x.num,.string ⟨x.name.toArray⟩,.slice Ax x.kids.length cx]:=by rw[hUx];exact Box.new _ _ _ _ hOx
         have HKX:Hid (nt.ql (fun b=>w.heap.size≤b∧some b≠(Value.slice As ns.length cs).ownBlock∧¬b<w.heap.size) Ux x.kids (.slice Ax x.kids.length cx)):=qb ((hk.below hb).mono fun b q=>⟨Nat.le_trans HZC.out q,fun e=>by have h1:=(HRL.out b e.symm).2;omega,by have h1:=HZC.out;omega⟩);replace HMV:=qb (HMV.out.trans (Mv.of hb _));replace HS:=qb (HS.out.on hb);replace HROW:=qb (HROW.out.below hb);obtain⟨⟨x0,x1,x2,x3,x4⟩,xf0,xf1,xf2,xf3,xf4⟩:=c5 hxx;have HDx:=qb hd;have HAL:Hid (∀b,b<w.heap.size→b<Ux.heap.size):=qb fun b q=>Nat.lt_of_lt_of_le q HMV.out.grow.size;have HUx:=qb hUx;have HOx:=qb hOx;clear hm hk hd hOx hUx hb hxx hpc;go_wp2_with (first|(at_builtin;refine qy rfl _ _ rfl w.heap.size ns.length ns x (.slice As ns.length cs) _ Ux.heap.size rfl rfl HROW.out HDx.out HKX.out HAL.out HMV.out.grow.size rfl HNL.out rfl ?_;intro A9 c9 w9 ho9 hg9 hr9;have hrw:∀k,(Value.slice As ns.length cs).ownBlock=some k→w.heap.size≤k∧k≠rb:=(fun k e=>by have h1:=(HROW.out.lt k e).1;have h2:=HRB.out;omega);have HMV9:=qb (HMV.out.grown2 hg9 hrw);have HS9:=qb (HS.out.grown hg9 (fun k e=>by have h1:=(hrw k e).1;have h2:=(hrw k e).2;have h3:=HS0.out.low.size;exact⟨by omega,h2⟩));have HO9:=qb ho9;clear ho9 hg9 hr9 hrw)|(rw[←HUx.out,←HOx.out]))
         go_roundg g1
         case measure=>omega
         case rel=>unfold qe2;exact⟨q,ns++[x],HEN,HIQ,HMV9,HS9,qb (by simpa using HO9.out)⟩
     · rw[if_neg h2]at hpl;have hnl:0<ns.length:=List.length_pos_iff.2 h2;have hnl2:(0:Int)<(ns.length:Int):=by omega
       go_wp2_with fail;refine(qai [41] HS.out HM.out).mono ?_;rintro e w2 ⟨rfl,hb⟩;replace HMV:=qb (HMV.out.trans (Mv.of hb _));replace HS:=qb (HS.out.on hb);replace HROW:=qb (HROW.out.below hb);clear hb
       cases h3:isM l p [44]with
       |false=>
         rw[if_neg (by rw[h3];decide)]at hpl;have HEN:Hid (.no p=rl):=qb (by injection hpl);have HM3:=qb h3;clear hpl h3 h2 HIP2;go_wp2_with fail;refine(qai [44] HS.out HM3.out).mono ?_;rintro e w3 ⟨rfl,hb⟩;replace HMV:=qb (HMV.out.trans (Mv.of hb _));replace HS:=qb (HS.out.on hb);replace HROW:=qb (HROW.out.below hb);clear hb;go_wp2_with fail;try go_ret2
         rw[HP.out,←HEN.out]
         exact⟨_,rfl,HMV.out⟩
       |true=>
         rw[if_pos h3]at hpl;have HM3:=qb h3;have hin:=qu h3;have HJ2:Hid (I64 (p+1)):=qb (by have:=HLEN.out;unfold I64;omega);clear h3 h2;go_wp2_with fail;refine(qac [44] HS.out HM3.out).mono ?_;rintro e w3 ⟨rfl,hm⟩;replace HMV:=qb (HMV.out.trans hm);replace HS:=qb (HS.out.moved hm HJ2.out);replace HROW:=qb (qeW HROW.out hm HRB.out);clear hm;have hpe:=qcz l (p+1) (by omega) (by omega);go_wp2_with fail;have hpc:=qbQ HS.out (show p+1≤(l.length:Int) by omega)
         cases hx:paR l (p+1)with
         |list ms q=>rw[hx]at hpe;exact hpe.elim
         |no q=>
           rw[hx]at hpl hpc hpe;have HEN:Hid (.no q=rl):=qb (by cases hpl;rfl);clear hpl hx hpe HIP2;refine hpc.mono ?_;rintro e w5 ⟨x,Ax,kx,cx,rfl,hm⟩;replace HMV:=qb (HMV.out.trans hm);clear hm hpc;obtain⟨Ox,hOx⟩:=qc w5.heap.size;obtain⟨Ux,hUx⟩:=qc (w5.alloc (.cells #[.int .i64 x.kind,.int .i64 x.at_,.int .i64 x.num,.string ⟨x.name.toArray⟩,.slice Ax kx cx] qi));have hb:Below w5.heap.size w5 Ux:=by rw[hUx];exact qd.alloc qe _
           replace HMV:=qb (HMV.out.trans (Mv.of hb _));have HUx:=qb hUx;have HOx:=qb hOx;clear hUx hOx hb;go_wp2_with (first|(rw[←HUx.out,←HOx.out]));try go_ret2
           rw[HP.out,←HEN.out]
           exact⟨_,rfl,HMV.out⟩
         |node x q=>
           rw[hx]at hpl hpc hpe;have hpl:qbH l g1 q (ns++[x])=some rl:=hpl;have HEN:=qb hpl;have HIQ:Hid (0≤q∧q≤(l.length:Int)∧(((ns++[x]).length:Nat):Int)≤q):=qb (by rw[List.length_append];have h1:=hpe.1;have h2:=hpe.2;simp;omega);have HJQ:Hid (I64 q):=qb (by have:=HLEN.out;have h2:=HIQ.out;unfold I64;omega);have HNL:Hid (ns.length≤1099511627776):=qb (by have:=HLEN.out;omega);clear hpl hx hpe HIP2;have HZC:=qb HMV.out.grow.size;have HRL:=qb (fun k (e:(Value.slice As ns.length cs).ownBlock=some k)=>(HROW.out.lt k e));refine hpc.mono ?_;rintro e w5 ⟨sx,rfl,hk,hd,hm⟩;obtain⟨Ax,cx,rfl,_⟩:=hk.form;replace HMV:=qb (HMV.out.trans hm);replace HS:=qb (HS.out.moved hm HJQ.out);replace HROW:=qb (qeW HROW.out hm HRB.out);obtain⟨Ox,hOx⟩:=qc w5.heap.size;obtain⟨Ux,hUx⟩:=qc (w5.alloc (.cells #[.int .i64 x.kind,.int .i64 x.at_,.int .i64 x.num,.string ⟨x.name.toArray⟩,.slice Ax x.kids.length cx] qi));have hb:Below w5.heap.size w5 Ux:=by rw[hUx];exact qd.alloc qe _
           have hxx:Box Ux Ox qi #[.int .i64 x.kind,.int .i64 x.at_,.int .i64 x.num,.string ⟨x.name.toArray⟩,.slice Ax x.kids.length cx]:=by rw[hUx];exact Box.new _ _ _ _ hOx
           have HKX:Hid (nt.ql (fun b=>w.heap.size≤b∧some b≠(Value.slice As ns.length cs).ownBlock∧¬b<w.heap.size) Ux x.kids (.slice Ax x.kids.length cx)):=qb ((hk.below hb).mono fun b q=>⟨Nat.le_trans HZC.out q,fun e=>by have h1:=(HRL.out b e.symm).2;omega,by have h1:=HZC.out;omega⟩);replace HMV:=qb (HMV.out.trans (Mv.of hb _));replace HS:=qb (HS.out.on hb);replace HROW:=qb (HROW.out.below hb);obtain⟨⟨x0,x1,x2,x3,x4⟩,xf0,xf1,xf2,xf3,xf4⟩:=c5 hxx;have HDx:=qb hd;have HAL:Hid (∀b,b<w.heap.size→b<Ux.heap.size):=qb fun b q=>Nat.lt_of_lt_of_le q HMV.out.grow.size;have HUx:=qb hUx;have HOx:=qb hOx;clear hm hk hd hOx hUx hb hxx hpc;go_wp2_with (first|(at_builtin;refine qy rfl _ _ rfl w.heap.size ns.length ns x (.slice As ns.length cs) _ Ux.heap.size rfl rfl HROW.out HDx.out HKX.out HAL.out HMV.out.grow.size rfl HNL.out rfl ?_;intro A9 c9 w9 ho9 hg9 hr9;have hrw:∀k,(Value.slice As ns.length cs).ownBlock=some k→w.heap.size≤k∧k≠rb:=(fun k e=>by have h1:=(HROW.out.lt k e).1;have h2:=HRB.out;omega);have HMV9:=qb (HMV.out.grown2 hg9 hrw);have HS9:=qb (HS.out.grown hg9 (fun k e=>by have h1:=(hrw k e).1;have h2:=(hrw k e).2;have h3:=HS0.out.low.size;exact⟨by omega,h2⟩));have HO9:=qb ho9;clear ho9 hg9 hr9 hrw)|(rw[←HUx.out,←HOx.out]))
           go_roundg g1
           case measure=>omega
           case rel=>unfold qe2;exact⟨q,ns++[x],HEN,HIQ,HMV9,HS9,qb (by simpa using HO9.out)⟩
end Go.Proofs.YtdndfifkfjoffaaGreatDoor.pm.sx
namespace Go.Proofs.YtdndfifkfjoffaaGreatDoor.pm.sx
open Go.RowKit wd lx nt ne pm mem
open vt (I64 qft qt qv qZ qee Typ qc6)
variable{l:List Tk}{v:Value}{w0:World}{rb Op Oq:Nat}{A A':Nat→Prop}{i j p:Int}{k a m:Int}{t:List UInt8}{ns ns':List NT}{s s':Value}{G:List NT}{z:Option NT}{w X Y:World}
structure Nw(l:List Tk)(v:Value)(w0:World)(rb:Nat)(i:Int)(w:World)(Op Oq:Nat)(k a m:Int)(t:List UInt8)(p:Int)(ns:List NT)(s:Value)(X:World):Prop where
 mv:Mv v rb i p w X
 rs:Rs l v w0 rb p X
 bp:Box X Op qi #[.int .i64 k,.int .i64 a,.int .i64 m,.string ⟨t.toArray⟩,s]
 bq:Box X Oq qi #[.int .i64 0,.int .i64 0,.int .i64 0,.string ⟨#[]⟩,.slice none 0 0]
 row:qP w.heap.size (fun b=>b<w.heap.size∨b=Op∨b=Oq) X ns s
 lp:w.heap.size≤Op
 lq:w.heap.size≤Oq
 qp:¬Oq=Op
 lt:rb<w.heap.size
theorem Nw.pr(h:Nw l v w0 rb i w Op Oq k a m t p ns s X):¬Op=rb:=fun e=>by have h1:=h.lp;have h2:=h.lt;omega
theorem Nw.qr(h:Nw l v w0 rb i w Op Oq k a m t p ns s X):¬Oq=rb:=fun e=>by have h1:=h.lq;have h2:=h.lt;omega
theorem Nw.sz(h:Nw l v w0 rb i w Op Oq k a m t p ns s X):w.heap.size≤X.heap.size:=h.mv.grow.size
theorem Nw.start{U W:World}(h:Rs l v w0 rb i w)(hOp:Op=w.heap.size)(hU:U=w.alloc (.cells #[.int .i64 k,.int .i64 a,.int .i64 m,.string ⟨t.toArray⟩,.slice none 0 0] qi))(hOq:Oq=U.heap.size)(hW:W=U.alloc (.cells #[.int .i64 0,.int .i64 0,.int .i64 0,.string ⟨#[]⟩,.slice none 0 0] qi)):Nw l v w0 rb i w Op Oq k a m t i [] (.slice none 0 0) W:=by
 have hb1:Below w.heap.size w U:=by rw[hU];exact qd.alloc qe _
 have hb2:Below U.heap.size U W:=by rw[hW];exact qd.alloc qe _
 have hx:Box U Op qi #[.int .i64 k,.int .i64 a,.int .i64 m,.string ⟨t.toArray⟩,.slice none 0 0]:=by rw[hU];exact Box.new _ _ _ _ hOp
 refine⟨Mv.of (hb1.trans (hb2.mono hb1.size)) i,(h.on hb1).on hb2,hx.on hb2,by rw[hW];exact Box.new _ _ _ _ hOq,qaZ _ _ _,by omega,by rw[hOq];exact hb1.size,?_,h.lt⟩;have:=hx.lt;omega
theorem qjI{B:Nat}{D:Nat→Prop}(h:qP B D X ns s)(hm:Mv v rb i j X Y)(hrb:rb<B):qP B D Y ns s:=by
 obtain⟨vs,hv,ho,hk⟩:=h;refine⟨vs,hv.carry fun b o u q hc=>⟨q,(World.cell?_of_block (w:=X) (w':=Y) (a:=⟨b,o,none⟩) (hm.grow.block b (World.block_lt_of_cell? _ _ hc) fun e=>?_)).trans hc⟩,qZ ho fun k e=>hm.grow.block k (ho.lt k e).2 fun e2=>?_,hk⟩
 · injection e with e;have:=q.1;omega
 · injection e2 with e2;have:=(ho.lt k e).1;omega
theorem Nw.on(h:Nw l v w0 rb i w Op Oq k a m t p ns s X)(hb:Below X.heap.size X Y):Nw l v w0 rb i w Op Oq k a m t p ns s Y:=
 ⟨h.mv.trans (Mv.of hb _),h.rs.on hb,h.bp.on hb,h.bq.on hb,h.row.below hb,h.lp,h.lq,h.qp,h.lt⟩
theorem Nw.moved(h:Nw l v w0 rb i w Op Oq k a m t p ns s X)(hm:Mv v rb p j X Y)(hj:I64 j):Nw l v w0 rb i w Op Oq k a m t j ns s Y:=
 ⟨h.mv.trans hm,h.rs.moved hm hj,hm.other h.bp h.pr,hm.other h.bq h.qr,qjI h.row hm h.lt,h.lp,h.lq,h.qp,h.lt⟩
theorem Nw.own(h:Nw l v w0 rb i w Op Oq k a m t p ns s X):∀b,s.ownBlock=some b→w.heap.size≤b∧b≠Op∧b≠Oq∧b<X.heap.size:=fun b e=>by
 have h1:=h.row.lt b e;have h2:=h.row.choose_spec.2.2 b e;exact⟨h1.1,fun e=>h2 (Or.inr (Or.inl e)),fun e=>h2 (Or.inr (Or.inr e)),h1.2⟩
theorem Nw.set(h:Nw l v w0 rb i w Op Oq k a m t p ns s X)(u:Int):Nw l v w0 rb i w Op Oq k a u t p ns s (X.setCell ⟨Op,2,none⟩ (.int .i64 u)):=
 ⟨h.mv.set h.lp h.pr _,h.rs.set (by have h1:=h.rs.hB;have h2:=h.lt;have h3:=h.lp;omega) h.pr _,h.bp.set 2 _,h.bq.far h.qp _,h.row.set (Or.inr (Or.inl rfl)) _,h.lp,h.lq,h.qp,h.lt⟩
theorem Nw.kid{Z:World}(h:Nw l v w0 rb i w Op Oq k a m t p ns s Z){xs:List NT}{sx:Value}(hk:nt.ql (fun b=>Z.heap.size≤b) Y xs sx):nt.ql (fun b=>w.heap.size≤b∧some b≠s.ownBlock∧¬(b<w.heap.size∨b=Op∨b=Oq)) Y xs sx:=
 hk.mono fun b q=>⟨Nat.le_trans h.sz q,fun e=>by have:=(h.own b e.symm).2.2.2;omega,fun e=>by
   have h1:=h.bp.lt;have h2:=h.bq.lt;have h3:=h.sz;rcases e with e|e|e<;>omega⟩
theorem Nw.all(h:Nw l v w0 rb i w Op Oq k a m t p ns s X):∀b,b<w.heap.size∨b=Op∨b=Oq→b<X.heap.size:=fun b q=>by
 have h1:=h.bp.lt;have h2:=h.bq.lt;have h3:=h.sz;rcases q with q|q|q<;>omega
theorem Nw.app{w9:World}(h:Nw l v w0 rb i w Op Oq k a m t p ns s X)(ho:qP w.heap.size (fun b=>b<w.heap.size∨b=Op∨b=Oq) w9 ns' s')(hg:X.grownBy w9 s.ownBlock):Nw l v w0 rb i w Op Oq k a m t p ns' s' (w9.setCell ⟨Op,4,none⟩ s')∧Box w9 Op qi #[.int .i64 k,.int .i64 a,.int .i64 m,.string ⟨t.toArray⟩,s]:=by
 have h9:Box w9 Op qi #[.int .i64 k,.int .i64 a,.int .i64 m,.string ⟨t.toArray⟩,s]:=h.bp.grown hg fun e=>(h.own Op e.symm).2.1 rfl;have hq9:Box w9 Oq qi #[.int .i64 0,.int .i64 0,.int .i64 0,.string ⟨#[]⟩,.slice none 0 0]:=h.bq.grown hg fun e=>(h.own Oq e.symm).2.2.1 rfl;have h0:w0.heap.size≤w.heap.size:=by have h1:=h.rs.hB;have h2:=h.lt;omega
 have hr:∀k,s.ownBlock=some k→w.heap.size≤k∧k≠rb:=fun b e=>⟨(h.own b e).1,fun e2=>by have h1:=(h.own b e).1;have h2:=h.lt;omega⟩;exact⟨⟨(h.mv.grown2 hg hr).set h.lp h.pr _,(h.rs.grown hg fun b e=>⟨Nat.le_trans h0 (hr b e).1,(hr b e).2⟩).set (Nat.le_trans h0 h.lp) h.pr _,h9.set 4 _,hq9.far h.qp _,ho.set (Or.inr (Or.inl rfl)) _,h.lp,h.lq,h.qp,h.lt⟩,h9⟩
theorem Nw.told(h:Nw l v w0 rb i w Op Oq k a m t p ns s X)(c1 c2 c3 c4 c5:Value):nt.ql (fun b=>w.heap.size≤b) (nt.five X Oq c1 c2 c3 c4 c5) ns s:=
 (nt.qab ((qlZ h.row).mono fun b q=>q) (fun b q e=>q.2 (Or.inr (Or.inr e))) _ _ _ _ _).mono fun b q=>q.1
theorem Nw.end(h:Nw l v w0 rb i w Op Oq k a m t p ns s X)(c1 c2 c3 c4 c5:Value):Mv v rb i p w (nt.five X Oq c1 c2 c3 c4 c5):=qaj h.mv h.lq h.qr _ _ _ _ _
theorem Nw.hand(h:Nw l v w0 rb i w Op Oq k a m t p ns s X)(hA:∀b,A b→b<w.heap.size):qP w0.heap.size (Dn (Up A w X) (fun b=>A b∨b=Oq) X) X ns s:=by
 obtain⟨vs,hv,ho,hk⟩:=h.row;have h0:w0.heap.size≤w.heap.size:=by have h1:=h.rs.hB;have h2:=h.lt;omega
 have key:∀b,w.heap.size≤b→b<X.heap.size→b≠Oq→¬Dn (Up A w X) (fun b=>A b∨b=Oq) X b:=fun b h1 h2 h3 e=>
   e.2 ⟨Or.inr ⟨h1,h2⟩,fun q=>q.elim (fun q=>by have:=hA b q;omega) h3⟩
 refine⟨vs,hv.carry fun b o u q hc=>⟨⟨Nat.le_trans h0 q.1,q.2.1,key b q.1 (World.block_lt_of_cell? _ _ hc) fun e=>q.2.2 (Or.inr (Or.inr e))⟩,hc⟩,?_,fun b e=>key b (h.own b e).1 (h.own b e).2.2.2 (h.own b e).2.2.1⟩;exact ho.mono h0
theorem Nw.rd(h:Nw l v w0 rb i w Op Oq k a m t p ns s X)(hr:Rd l v w0 rb A i G z w):Rd l v w0 rb (Up A w X) p G z X:=hr.moved h.mv h.rs.num
theorem Nw.keep(h:Nw l v w0 rb i w Op Oq k a m t p ns s X)(hr:Rd l v w0 rb A i G z w):qF A w X:=fun b q=>h.mv.grow.block b (hr.ap b q).2 fun e=>by injection e with e;exact hr.not (by rw[←e];exact q)
end Go.Proofs.YtdndfifkfjoffaaGreatDoor.pm.sx

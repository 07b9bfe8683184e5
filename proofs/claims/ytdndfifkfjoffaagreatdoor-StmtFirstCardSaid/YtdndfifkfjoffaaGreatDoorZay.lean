/- The package's reader of statements: a place goes on. (and what it stands on) -/
import Derived.Test.YtdndfifkfjoffaaGreatDoorZaw
import Derived.Test.YtdndfifkfjoffaaGreatDoorZax
import Derived.Test.YtdndfifkfjoffaaGreatDoorZam
import Derived.Deep.RegionLaw
import Derived.Test.YtdndfifkfjoffaaGreatDoorZaa
set_option maxRecDepth 100000
set_option maxHeartbeats 4000000
namespace Go.Proofs.YtdndfifkfjoffaaGreatDoor.pm.sx
open Go.RowKit wd lx nt ne pm mem
open vt (I64 qft qt qv qZ qee Typ qc6)
variable{l:List Tk}{v:Value}{w0:World}{rb:Nat}{A A':Nat→Prop}{i j:Int}{G:List NT}{z:Option NT}{w:World}
theorem qj3(h:Rd l v w0 rb A i G z w)(hm:pm.isW l i sIf=false):
   Calls Tryz.prog 66 #[.pointer (some ⟨rb,0,none⟩)] w (qw l v w0 rb A w (.no i)):=by
 obtain⟨P,hP⟩:=qc (qw l v w0 rb A w (.no i):Ending→World→Prop);rw[←hP];have HP:=qb hP;clear hP;have HLEN:=qb h.env.src.len;have HM:=qb hm;have hA:∀b,A b→A b:=fun _ q=>q;have HDF:Hid (I64 (qh l i).at_):=qb (h.env.src.fair i).1;have HF:=qb (Fx.start h hA);clear h hm hA;go_enter Tryz.func66,Tryz.ntmps66
 have hfi:=fun w'=>em.qaB (qh l i) w';go_wp2_with fail;refine(qs HF.out.rs).mono ?_;rintro e w1 ⟨rfl,hb⟩;replace HF:=qb (HF.out.on hb);clear hb;unfold tkA;obtain⟨a,ha⟩:=qc ((qh l i).at_);rw[←ha]at hfi HDF ⊢;clear ha;obtain⟨On,hO⟩:=qc w1.heap.size;obtain⟨Un,hU⟩:=qc (w1.alloc (.cells #[.int .i64 33,.int .i64 a,.int .i64 0,.string ⟨#[]⟩,.slice none 0 0] qi));have hb:Below w1.heap.size w1 Un:=by rw[hU];exact qd.alloc qe _
 have HLn:Hid (w.heap.size≤On):=qb (by rw[hO];exact HF.out.sz);have hNn:¬On=rb:=fun e=>by have h1:=HLn.out;have h2:=HF.out.lt;omega
 have hMn:¬rb=On:=fun e=>hNn e.symm;have HNn:=qb hNn;replace HF:=qb (HF.out.on hb);have HXn:Hid (Box Un On qi #[.int .i64 33,.int .i64 a,.int .i64 0,.string ⟨#[]⟩,.slice none 0 0]):=qb (by rw[hU];exact Box.new _ _ _ _ hO);have HUn:=qb hU;have HOn:=qb hO;clear hU hO hb;go_wp2_with (first|(rw[←HUn.out,←HOn.out]));refine(qay sIf HF.out.rs HM.out).mono ?_;rintro e w2 ⟨rfl,hb⟩;replace HF:=qb (HF.out.on hb);replace HXn:=qb (HXn.out.on hb);clear hb;have HE:=qb (HF.out.no);go_wp2_with fail;try go_ret
 rw[HP.out];exact HE.out
theorem qiD(h:Rd l v w0 rb A i G z w)(hc:cnt G≤1049500)(hm:pm.isW l i sIf=true):
   Calls Tryz.prog 66 #[.pointer (some ⟨rb,0,none⟩)] w (qw l v w0 rb A w (qbT l (i+1) 33 (qh l i).at_ G z)):=by
 obtain⟨P,hP⟩:=qc (qw l v w0 rb A w (qbT l (i+1) 33 (qh l i).at_ G z):Ending→World→Prop);rw[←hP];have HP:=qb hP;clear hP;have HLEN:=qb h.env.src.len;have HM:=qb hm;have hA:∀b,A b→A b:=fun _ q=>q;have HC:=qb hc;have hin:=qQ hm;have HJ:Hid (I64 (i+1)):=qb (by have:=HLEN.out;unfold I64;omega);have HJ2:Hid (i+1≤(l.length:Int)):=qb (by omega);have HDF:Hid (I64 33∧I64 (qh l i).at_):=qb ⟨by unfold I64;omega,(h.env.src.fair i).1⟩;have HF:=qb (Fx.start h hA);clear h hm hA hc hin;go_enter Tryz.func66,Tryz.ntmps66
 have hfi:=fun w'=>em.qaB (qh l i) w';go_wp2_with fail;refine(qs HF.out.rs).mono ?_;rintro e w1 ⟨rfl,hb⟩;replace HF:=qb (HF.out.on hb);clear hb;unfold tkA;obtain⟨a,ha⟩:=qc ((qh l i).at_);rw[←ha]at hfi HP HDF ⊢;clear ha;obtain⟨On,hO⟩:=qc w1.heap.size;obtain⟨Un,hU⟩:=qc (w1.alloc (.cells #[.int .i64 33,.int .i64 a,.int .i64 0,.string ⟨#[]⟩,.slice none 0 0] qi));have hb:Below w1.heap.size w1 Un:=by rw[hU];exact qd.alloc qe _
 have HLn:Hid (w.heap.size≤On):=qb (by rw[hO];exact HF.out.sz);have hNn:¬On=rb:=fun e=>by have h1:=HLn.out;have h2:=HF.out.lt;omega
 have hMn:¬rb=On:=fun e=>hNn e.symm;have HNn:=qb hNn;replace HF:=qb (HF.out.on hb);have HXn:Hid (Box Un On qi #[.int .i64 33,.int .i64 a,.int .i64 0,.string ⟨#[]⟩,.slice none 0 0]):=qb (by rw[hU];exact Box.new _ _ _ _ hO);have HUn:=qb hU;have HOn:=qb hO;clear hU hO hb;go_wp2_with (first|(rw[←HUn.out,←HOn.out]));refine(qal sIf HF.out.rs HM.out).mono ?_;rintro e w2 ⟨rfl,hm⟩;replace HF:=qb (HF.out.moved hm HJ.out);replace HXn:=qb (hm.other HXn.out HNn.out);clear hm;obtain⟨⟨xn_0,xn_1,xn_2,xn_3,xn_4⟩,fn_0,fn_1,fn_2,fn_3,fn_4⟩:=c5 HXn.out;go_wp2_with fail;refine(qfi (HF.out.rd.mono HF.out.upA) HDF.out HC.out HJ2.out).mono ?_;intro e w3 hp;obtain⟨bo,rfl,hp2⟩:=hp.form;have HE:=qb (HF.out.of hp2);clear hp hp2;clear xn_0 xn_1 xn_2 xn_3 xn_4 fn_0 fn_1 fn_2 fn_3 fn_4;go_wp2_with fail;try go_ret
 rw[HP.out];exact HE.out
theorem qfa(h:Rd l v w0 rb A i G z w)(hc:cnt G≤1049500):
   Calls Tryz.prog 66 #[.pointer (some ⟨rb,0,none⟩)] w (qw l v w0 rb A w (qbK l i G z)):=by
 unfold qbK;by_cases hm:pm.isW l i sIf=true
 · rw[if_pos hm];exact qiD h hc hm
 · rw[if_neg hm];exact qj3 h (em.qo hm)
theorem qkL(h:Rd l v w0 rb A i G z w)(hc:cnt G≤1049500):
   Calls Tryz.prog 97 #[.pointer (some ⟨rb,0,none⟩)] w (qw l v w0 rb A w (qcb l i G z)):=by
 obtain⟨P,hP⟩:=qc (qw l v w0 rb A w (qcb l i G z):Ending→World→Prop);rw[←hP];have HP:=qb hP;clear hP;have HLEN:=qb h.env.src.len;have hA:∀b,A b→A b:=fun _ q=>q;have HC:=qb hc;have HC2:Hid (cnt G≤1049600):=qb (by omega);have HF:=qb (Fx.start h hA);unfold qcb at HP;obtain⟨b,hbm⟩:=qc (pm.isW l i sIf);have HM:=qb hbm.symm;rw[←hbm]at HP;clear h hA hc hbm;go_enter Tryz.func97,Tryz.ntmps97
 go_wp2_with fail;refine(qd1 sIf HF.out.rs HM.out).mono ?_;rintro e w1 ⟨rfl,hb⟩;replace HF:=qb (HF.out.on hb);clear hb
 cases b with
 |false=>
     go_wp2_with fail;refine(qcf (HF.out.rd.mono HF.out.upA) HC2.out).mono ?_;intro e w2 hp;obtain⟨bo,rfl,hp2⟩:=hp.form;have HE:=qb (HF.out.of hp2);clear hp hp2;go_wp2_with fail;try go_ret
     rw[HP.out]
     exact HE.out
 |true=>
     go_wp2_with fail;refine(qfa (HF.out.rd.mono HF.out.upA) HC.out).mono ?_;intro e w2 hp;obtain⟨bo,rfl,hp2⟩:=hp.form;have HE:=qb (HF.out.of hp2);clear hp hp2;go_wp2_with fail;try go_ret
     rw[HP.out];exact HE.out
theorem qe8{a:Int}(h:Rd l v w0 rb A i G z w)(ha:I64 a)(hc:cnt G≤1049600)(hi:i≤(l.length:Int)):
   Calls Tryz.prog 70 #[.pointer (some ⟨rb,0,none⟩),.agg #[.int .i64 35,.int .i64 a,.int .i64 0,.string ⟨#[]⟩,.slice none 0 0]] w (qw l v w0 rb A w (qfU l i a G z)):=by
 obtain⟨P,hP⟩:=qc (qw l v w0 rb A w (qfU l i a G z):Ending→World→Prop);rw[←hP];have HP:=qb hP;clear hP;have HLEN:=qb h.env.src.len;have hA:∀b,A b→A b:=fun _ q=>q;have HC:=qb hc;have HI:=qb hi;have HDF:Hid (Hd (.mk 35 a 0 [] [])):=qb ⟨by show I64 35;unfold I64;omega,ha,by show I64 0;unfold I64;omega,by show 0≤281474976710656;omega⟩;have HF:=qb (Fx.start h hA);unfold qfU at HP;obtain⟨b,hbm⟩:=qc (isM l i [59]);have HM:=qb hbm.symm;rw[←hbm]at HP;obtain⟨On,hO⟩:=qc w.heap.size;obtain⟨Un,hU⟩:=qc (w.alloc (.cells #[.int .i64 35,.int .i64 a,.int .i64 0,.string ⟨#[]⟩,.slice none 0 0] qi));have hb:Below w.heap.size w Un:=by rw[hU];exact qd.alloc qe _
 have HLn:Hid (w.heap.size≤On):=qb (by rw[hO];exact HF.out.sz);have hNn:¬On=rb:=fun e=>by have h1:=HLn.out;have h2:=HF.out.lt;omega
 have hMn:¬rb=On:=fun e=>hNn e.symm;have HNn:=qb hNn;replace HF:=qb (HF.out.on hb);have HXn:Hid (Box Un On qi #[.int .i64 35,.int .i64 a,.int .i64 0,.string ⟨#[]⟩,.slice none 0 0]):=qb (by rw[hU];exact Box.new _ _ _ _ hO);have HUn:=qb hU;have HOn:=qb hO;clear hU hO hb;clear h hA hc hbm ha hi;go_enter Tryz.func70,Tryz.ntmps70
 go_wp2_with (first|(rw[←HUn.out,←HOn.out]));refine(qaC [59] HF.out.rs HM.out).mono ?_;rintro e w1 ⟨rfl,hb⟩;replace HF:=qb (HF.out.on hb);replace HXn:=qb (HXn.out.on hb);clear hb
 cases b with
 |false=>
     obtain⟨⟨xn_0,xn_1,xn_2,xn_3,xn_4⟩,fn_0,fn_1,fn_2,fn_3,fn_4⟩:=c5 HXn.out;go_wp2_with fail;refine(qcv (.mk 35 a 0 [] []) (.slice none 0 0) HF.out.rd HF.out.upA (qaZ _ _ _) (by simp[NT.kids]) HDF.out HC.out HI.out).mono ?_;intro e w2 hp;obtain⟨bo,rfl,hp2⟩:=hp.form;have HE:=qb (HF.out.of hp2);clear hp hp2;clear xn_0 xn_1 xn_2 xn_3 xn_4 fn_0 fn_1 fn_2 fn_3 fn_4;go_wp2_with fail;try go_ret
     rw[HP.out]
     exact HE.out
 |true=>
     obtain⟨⟨xn_0,xn_1,xn_2,xn_3,xn_4⟩,fn_0,fn_1,fn_2,fn_3,fn_4⟩:=c5 HXn.out;go_wp2_with fail;refine(qdf (.mk 35 a 0 [] []) (.slice none 0 0) HF.out.rd HF.out.upA (qi5 (qaZ _ _ _) fun _ q=>q) HDF.out HC.out).mono ?_;intro e w2 hp;obtain⟨bo,rfl,hp2⟩:=hp.form;have HE:=qb (HF.out.of hp2);clear hp hp2;clear xn_0 xn_1 xn_2 xn_3 xn_4 fn_0 fn_1 fn_2 fn_3 fn_4;go_wp2_with fail;try go_ret
     rw[HP.out];exact HE.out
theorem qnt{a:Int}(h:Rd l v w0 rb A i G z w)(hk:¬(qh l i).kind=1):
   Calls Tryz.prog 71 #[.pointer (some ⟨rb,0,none⟩),.agg #[.int .i64 36,.int .i64 a,.int .i64 0,.string ⟨#[]⟩,.slice none 0 0]] w (qw l v w0 rb A w (.no i)):=by
 obtain⟨P,hP⟩:=qc (qw l v w0 rb A w (.no i):Ending→World→Prop);rw[←hP];have HP:=qb hP;clear hP;have HLEN:=qb h.env.src.len;have hA:∀b,A b→A b:=fun _ q=>q;have HK:=qb hk;have HI:=qb h.num;have HF:=qb (Fx.start h hA);obtain⟨On,hO⟩:=qc w.heap.size;obtain⟨Un,hU⟩:=qc (w.alloc (.cells #[.int .i64 36,.int .i64 a,.int .i64 0,.string ⟨#[]⟩,.slice none 0 0] qi));have hb:Below w.heap.size w Un:=by rw[hU];exact qd.alloc qe _
 have HLn:Hid (w.heap.size≤On):=qb (by rw[hO];exact HF.out.sz);have hNn:¬On=rb:=fun e=>by have h1:=HLn.out;have h2:=HF.out.lt;omega
 have hMn:¬rb=On:=fun e=>hNn e.symm;have HNn:=qb hNn;replace HF:=qb (HF.out.on hb);have HXn:Hid (Box Un On qi #[.int .i64 36,.int .i64 a,.int .i64 0,.string ⟨#[]⟩,.slice none 0 0]):=qb (by rw[hU];exact Box.new _ _ _ _ hO);have HUn:=qb hU;have HOn:=qb hO;clear hU hO hb;clear h hA hk;go_enter Tryz.func71,Tryz.ntmps71
 go_wp2_with (first|(rw[←HUn.out,←HOn.out]));refine(qcy HF.out.rs HK.out).mono ?_;rintro e w1 ⟨x,Ax,cx,rfl,hm⟩;replace HF:=qb (HF.out.moved hm HI.out);replace HXn:=qb (hm.other HXn.out HNn.out);clear hm;obtain⟨Ox,hO⟩:=qc w1.heap.size;obtain⟨Ux,hU⟩:=qc (w1.alloc (.cells #[.int .i64 x.kind,.int .i64 x.at_,.int .i64 x.num,.string ⟨x.name.toArray⟩,.slice Ax 0 cx] qi));have hb:Below w1.heap.size w1 Ux:=by rw[hU];exact qd.alloc qe _
 have HLx:Hid (w.heap.size≤Ox):=qb (by rw[hO];exact HF.out.sz);have hNx:¬Ox=rb:=fun e=>by have h1:=HLx.out;have h2:=HF.out.lt;omega
 have hMx:¬rb=Ox:=fun e=>hNx e.symm;have HNx:=qb hNx;have hNxn:¬Ox=On:=fun e=>by have h1:=HXn.out.lt;omega
 have hNnx:¬On=Ox:=fun e=>hNxn e.symm;replace HF:=qb (HF.out.on hb);replace HXn:=qb (HXn.out.on hb);have HXx:Hid (Box Ux Ox qi #[.int .i64 x.kind,.int .i64 x.at_,.int .i64 x.num,.string ⟨x.name.toArray⟩,.slice Ax 0 cx]):=qb (by rw[hU];exact Box.new _ _ _ _ hO);have HUx:=qb hU;have HOx:=qb hO;clear hU hO hb;obtain⟨⟨xn_0,xn_1,xn_2,xn_3,xn_4⟩,fn_0,fn_1,fn_2,fn_3,fn_4⟩:=c5 HXn.out;obtain⟨⟨xx_0,xx_1,xx_2,xx_3,xx_4⟩,fx_0,fx_1,fx_2,fx_3,fx_4⟩:=c5 HXx.out;obtain⟨V1,hV⟩:=qc (Ux.setCell ⟨On,3,none⟩ (.string ⟨x.name.toArray⟩));replace HF:=qb (show Fx _ _ _ _ _ _ _ _ _ _ V1 from by rw[hV];exact HF.out.set HLn.out _);replace HXn:Hid (Box V1 On qi #[.int .i64 36,.int .i64 a,.int .i64 0,.string ⟨x.name.toArray⟩,.slice none 0 0]):=qb (by rw[hV];exact HXn.out.set 3 _);replace HXx:=qb (show Box V1 _ _ _ from by rw[hV];exact HXx.out.far (show Ox≠On from by first|exact hNxn|exact fun e=>hNnx e.symm) _);have HV1:=qb hV;clear hV;have HE:=qb HF.out.no;go_wp2_with (first|(rw[←HUx.out,←HOx.out])|(rw[←HV1.out]));try go_ret
 rw[HP.out];exact HE.out
theorem qlY{a:Int}(h:Rd l v w0 rb A i G z w)(ha:I64 a)(hc:cnt G≤1049600)(hk:(qh l i).kind=1):
   Calls Tryz.prog 71 #[.pointer (some ⟨rb,0,none⟩),.agg #[.int .i64 36,.int .i64 a,.int .i64 0,.string ⟨#[]⟩,.slice none 0 0]] w (qw l v w0 rb A w (qcV l (i+1) (.mk 36 a 0 (qh l i).text []) G z)):=by
 obtain⟨P,hP⟩:=qc (qw l v w0 rb A w (qcV l (i+1) (.mk 36 a 0 (qh l i).text []) G z):Ending→World→Prop);rw[←hP];have HP:=qb hP;clear hP;have HLEN:=qb h.env.src.len;have hA:∀b,A b→A b:=fun _ q=>q;have HK:=qb hk;have HC:=qb hc;have hin:=qC (l:=l) (i:=i) (by rw[hk];decide);have HJ:Hid (I64 (i+1)):=qb (by have:=HLEN.out;unfold I64;omega);have HIN:=qb hin;have HDF:Hid (Hd (.mk 36 a 0 (qh l i).text [])):=qb ⟨by show I64 36;unfold I64;omega,ha,by show I64 0;unfold I64;omega,(h.env.src.fair i).2.2⟩;have HF:=qb (Fx.start h hA);obtain⟨On,hO⟩:=qc w.heap.size;obtain⟨Un,hU⟩:=qc (w.alloc (.cells #[.int .i64 36,.int .i64 a,.int .i64 0,.string ⟨#[]⟩,.slice none 0 0] qi));have hb:Below w.heap.size w Un:=by rw[hU];exact qd.alloc qe _
 have HLn:Hid (w.heap.size≤On):=qb (by rw[hO];exact HF.out.sz);have hNn:¬On=rb:=fun e=>by have h1:=HLn.out;have h2:=HF.out.lt;omega
 have hMn:¬rb=On:=fun e=>hNn e.symm;have HNn:=qb hNn;replace HF:=qb (HF.out.on hb);have HXn:Hid (Box Un On qi #[.int .i64 36,.int .i64 a,.int .i64 0,.string ⟨#[]⟩,.slice none 0 0]):=qb (by rw[hU];exact Box.new _ _ _ _ hO);have HUn:=qb hU;have HOn:=qb hO;clear hU hO hb;clear h hA hk ha hc hin;go_enter Tryz.func71,Tryz.ntmps71
 go_wp2_with (first|(rw[←HUn.out,←HOn.out]));refine(qas HF.out.rs HK.out).mono ?_;rintro e w1 ⟨sx,rfl,hk1,hm⟩;obtain⟨Ax,cx,rfl,_⟩:=hk1.form;replace HF:=qb (HF.out.moved hm HJ.out);replace HXn:=qb (hm.other HXn.out HNn.out);clear hm hk1;obtain⟨nm,hnm⟩:=qc ((qh l i).text);rw[←hnm]at HP HDF ⊢;clear hnm;simp only[List.length_nil];obtain⟨Ox,hO⟩:=qc w1.heap.size;obtain⟨Ux,hU⟩:=qc (w1.alloc (.cells #[.int .i64 12,.int .i64 (qh l i).at_,.int .i64 0,.string ⟨nm.toArray⟩,.slice Ax 0 cx] qi));have hb:Below w1.heap.size w1 Ux:=by rw[hU];exact qd.alloc qe _
 have HLx:Hid (w.heap.size≤Ox):=qb (by rw[hO];exact HF.out.sz);have hNx:¬Ox=rb:=fun e=>by have h1:=HLx.out;have h2:=HF.out.lt;omega
 have hMx:¬rb=Ox:=fun e=>hNx e.symm;have HNx:=qb hNx;have hNxn:¬Ox=On:=fun e=>by have h1:=HXn.out.lt;omega
 have hNnx:¬On=Ox:=fun e=>hNxn e.symm;replace HF:=qb (HF.out.on hb);replace HXn:=qb (HXn.out.on hb);have HXx:Hid (Box Ux Ox qi #[.int .i64 12,.int .i64 (qh l i).at_,.int .i64 0,.string ⟨nm.toArray⟩,.slice Ax 0 cx]):=qb (by rw[hU];exact Box.new _ _ _ _ hO);have HUx:=qb hU;have HOx:=qb hO;clear hU hO hb;obtain⟨⟨xn_0,xn_1,xn_2,xn_3,xn_4⟩,fn_0,fn_1,fn_2,fn_3,fn_4⟩:=c5 HXn.out;obtain⟨⟨xx_0,xx_1,xx_2,xx_3,xx_4⟩,fx_0,fx_1,fx_2,fx_3,fx_4⟩:=c5 HXx.out;obtain⟨V1,hV⟩:=qc (Ux.setCell ⟨On,3,none⟩ (.string ⟨nm.toArray⟩));replace HF:=qb (show Fx _ _ _ _ _ _ _ _ _ _ V1 from by rw[hV];exact HF.out.set HLn.out _);replace HXn:Hid (Box V1 On qi #[.int .i64 36,.int .i64 a,.int .i64 0,.string ⟨nm.toArray⟩,.slice none 0 0]):=qb (by rw[hV];exact HXn.out.set 3 _);replace HXx:=qb (show Box V1 _ _ _ from by rw[hV];exact HXx.out.far (show Ox≠On from by first|exact hNxn|exact fun e=>hNnx e.symm) _);have HV1:=qb hV;clear hV;obtain⟨⟨v0,v1,v2,v3,v4⟩,g0,g1,g2,g3,g4⟩:=c5 HXn.out;go_wp2_with (first|(rw[←HUx.out,←HOx.out])|(rw[←HV1.out]));refine(qdf (.mk 36 a 0 nm []) (.slice none 0 0) HF.out.rd HF.out.upA (qi5 (qaZ _ _ _) fun _ q=>q) HDF.out HC.out).mono ?_;intro e w9 hp;obtain⟨bo,rfl,hp2⟩:=hp.form;have HE:=qb (HF.out.of hp2);clear hp hp2;go_wp2_with fail;try go_ret
 rw[HP.out];exact HE.out
theorem qip{a:Int}(h:Rd l v w0 rb A i G z w)(hk:¬(qh l i).kind=1):
   Calls Tryz.prog 69 #[.pointer (some ⟨rb,0,none⟩),.agg #[.int .i64 31,.int .i64 a,.int .i64 0,.string ⟨#[]⟩,.slice none 0 0]] w (qw l v w0 rb A w (.no i)):=by
 obtain⟨P,hP⟩:=qc (qw l v w0 rb A w (.no i):Ending→World→Prop);rw[←hP];have HP:=qb hP;clear hP;have HLEN:=qb h.env.src.len;have hA:∀b,A b→A b:=fun _ q=>q;have HK:=qb hk;have HI:=qb h.num;have HF:=qb (Fx.start h hA);obtain⟨On,hO⟩:=qc w.heap.size;obtain⟨Un,hU⟩:=qc (w.alloc (.cells #[.int .i64 31,.int .i64 a,.int .i64 0,.string ⟨#[]⟩,.slice none 0 0] qi));have hb:Below w.heap.size w Un:=by rw[hU];exact qd.alloc qe _
 have HLn:Hid (w.heap.size≤On):=qb (by rw[hO];exact HF.out.sz);have hNn:¬On=rb:=fun e=>by have h1:=HLn.out;have h2:=HF.out.lt;omega
 have hMn:¬rb=On:=fun e=>hNn e.symm;have HNn:=qb hNn;replace HF:=qb (HF.out.on hb);have HXn:Hid (Box Un On qi #[.int .i64 31,.int .i64 a,.int .i64 0,.string ⟨#[]⟩,.slice none 0 0]):=qb (by rw[hU];exact Box.new _ _ _ _ hO);have HUn:=qb hU;have HOn:=qb hO;clear hU hO hb;clear h hA hk;go_enter Tryz.func69,Tryz.ntmps69
 go_wp2_with (first|(rw[←HUn.out,←HOn.out]));refine(qcy HF.out.rs HK.out).mono ?_;rintro e w1 ⟨x,Ax,cx,rfl,hm⟩;replace HF:=qb (HF.out.moved hm HI.out);replace HXn:=qb (hm.other HXn.out HNn.out);clear hm;obtain⟨Ox,hO⟩:=qc w1.heap.size;obtain⟨Ux,hU⟩:=qc (w1.alloc (.cells #[.int .i64 x.kind,.int .i64 x.at_,.int .i64 x.num,.string ⟨x.name.toArray⟩,.slice Ax 0 cx] qi));have hb:Below w1.heap.size w1 Ux:=by rw[hU];exact qd.alloc qe _
 have HLx:Hid (w.heap.size≤Ox):=qb (by rw[hO];exact HF.out.sz);have hNx:¬Ox=rb:=fun e=>by have h1:=HLx.out;have h2:=HF.out.lt;omega
 have hMx:¬rb=Ox:=fun e=>hNx e.symm;have HNx:=qb hNx;have hNxn:¬Ox=On:=fun e=>by have h1:=HXn.out.lt;omega
 have hNnx:¬On=Ox:=fun e=>hNxn e.symm;replace HF:=qb (HF.out.on hb);replace HXn:=qb (HXn.out.on hb);have HXx:Hid (Box Ux Ox qi #[.int .i64 x.kind,.int .i64 x.at_,.int .i64 x.num,.string ⟨x.name.toArray⟩,.slice Ax 0 cx]):=qb (by rw[hU];exact Box.new _ _ _ _ hO);have HUx:=qb hU;have HOx:=qb hO;clear hU hO hb;obtain⟨⟨xn_0,xn_1,xn_2,xn_3,xn_4⟩,fn_0,fn_1,fn_2,fn_3,fn_4⟩:=c5 HXn.out;obtain⟨⟨xx_0,xx_1,xx_2,xx_3,xx_4⟩,fx_0,fx_1,fx_2,fx_3,fx_4⟩:=c5 HXx.out;obtain⟨V1,hV⟩:=qc (Ux.setCell ⟨On,3,none⟩ (.string ⟨x.name.toArray⟩));replace HF:=qb (show Fx _ _ _ _ _ _ _ _ _ _ V1 from by rw[hV];exact HF.out.set HLn.out _);replace HXn:Hid (Box V1 On qi #[.int .i64 31,.int .i64 a,.int .i64 0,.string ⟨x.name.toArray⟩,.slice none 0 0]):=qb (by rw[hV];exact HXn.out.set 3 _);replace HXx:=qb (show Box V1 _ _ _ from by rw[hV];exact HXx.out.far (show Ox≠On from by first|exact hNxn|exact fun e=>hNnx e.symm) _);have HV1:=qb hV;clear hV;have HE:=qb HF.out.no;go_wp2_with (first|(rw[←HUx.out,←HOx.out])|(rw[←HV1.out]));try go_ret
 rw[HP.out];exact HE.out
theorem qeP{a:Int}(h:Rd l v w0 rb A i G z w)(ha:I64 a)(hc:cnt G≤1049600)(hk:(qh l i).kind=1)(hm:isM l (i+1) [61]=false):
   Calls Tryz.prog 69 #[.pointer (some ⟨rb,0,none⟩),.agg #[.int .i64 31,.int .i64 a,.int .i64 0,.string ⟨#[]⟩,.slice none 0 0]] w (qw l v w0 rb A w (.no (i+1))):=by
 obtain⟨P,hP⟩:=qc (qw l v w0 rb A w (.no (i+1)):Ending→World→Prop);rw[←hP];have HP:=qb hP;clear hP;have HLEN:=qb h.env.src.len;have hA:∀b,A b→A b:=fun _ q=>q;have HK:=qb hk;have HC:=qb hc;have hin:=qC (l:=l) (i:=i) (by rw[hk];decide);have HJ:Hid (I64 (i+1)):=qb (by have:=HLEN.out;unfold I64;omega);have HIN:=qb hin;have HDF:Hid (Hd (.mk 31 a 0 (qh l i).text [])):=qb ⟨by show I64 31;unfold I64;omega,ha,by show I64 0;unfold I64;omega,(h.env.src.fair i).2.2⟩;have HM:=qb hm;have HF:=qb (Fx.start h hA);obtain⟨On,hO⟩:=qc w.heap.size;obtain⟨Un,hU⟩:=qc (w.alloc (.cells #[.int .i64 31,.int .i64 a,.int .i64 0,.string ⟨#[]⟩,.slice none 0 0] qi));have hb:Below w.heap.size w Un:=by rw[hU];exact qd.alloc qe _
 have HLn:Hid (w.heap.size≤On):=qb (by rw[hO];exact HF.out.sz);have hNn:¬On=rb:=fun e=>by have h1:=HLn.out;have h2:=HF.out.lt;omega
 have hMn:¬rb=On:=fun e=>hNn e.symm;have HNn:=qb hNn;replace HF:=qb (HF.out.on hb);have HXn:Hid (Box Un On qi #[.int .i64 31,.int .i64 a,.int .i64 0,.string ⟨#[]⟩,.slice none 0 0]):=qb (by rw[hU];exact Box.new _ _ _ _ hO);have HUn:=qb hU;have HOn:=qb hO;clear hU hO hb;clear h hA hk ha hc hin hm;go_enter Tryz.func69,Tryz.ntmps69
 go_wp2_with (first|(rw[←HUn.out,←HOn.out]));refine(qas HF.out.rs HK.out).mono ?_;rintro e w1 ⟨sx,rfl,hk1,hm⟩;obtain⟨Ax,cx,rfl,_⟩:=hk1.form;replace HF:=qb (HF.out.moved hm HJ.out);replace HXn:=qb (hm.other HXn.out HNn.out);clear hm hk1;obtain⟨nm,hnm⟩:=qc ((qh l i).text);rw[←hnm]at HDF ⊢;clear hnm;simp only[List.length_nil];obtain⟨Ox,hO⟩:=qc w1.heap.size;obtain⟨Ux,hU⟩:=qc (w1.alloc (.cells #[.int .i64 12,.int .i64 (qh l i).at_,.int .i64 0,.string ⟨nm.toArray⟩,.slice Ax 0 cx] qi));have hb:Below w1.heap.size w1 Ux:=by rw[hU];exact qd.alloc qe _
 have HLx:Hid (w.heap.size≤Ox):=qb (by rw[hO];exact HF.out.sz);have hNx:¬Ox=rb:=fun e=>by have h1:=HLx.out;have h2:=HF.out.lt;omega
 have hMx:¬rb=Ox:=fun e=>hNx e.symm;have HNx:=qb hNx;have hNxn:¬Ox=On:=fun e=>by have h1:=HXn.out.lt;omega
 have hNnx:¬On=Ox:=fun e=>hNxn e.symm;replace HF:=qb (HF.out.on hb);replace HXn:=qb (HXn.out.on hb);have HXx:Hid (Box Ux Ox qi #[.int .i64 12,.int .i64 (qh l i).at_,.int .i64 0,.string ⟨nm.toArray⟩,.slice Ax 0 cx]):=qb (by rw[hU];exact Box.new _ _ _ _ hO);have HUx:=qb hU;have HOx:=qb hO;clear hU hO hb;obtain⟨⟨xn_0,xn_1,xn_2,xn_3,xn_4⟩,fn_0,fn_1,fn_2,fn_3,fn_4⟩:=c5 HXn.out;obtain⟨⟨xx_0,xx_1,xx_2,xx_3,xx_4⟩,fx_0,fx_1,fx_2,fx_3,fx_4⟩:=c5 HXx.out;obtain⟨V1,hV⟩:=qc (Ux.setCell ⟨On,3,none⟩ (.string ⟨nm.toArray⟩));replace HF:=qb (show Fx _ _ _ _ _ _ _ _ _ _ V1 from by rw[hV];exact HF.out.set HLn.out _);replace HXn:Hid (Box V1 On qi #[.int .i64 31,.int .i64 a,.int .i64 0,.string ⟨nm.toArray⟩,.slice none 0 0]):=qb (by rw[hV];exact HXn.out.set 3 _);replace HXx:=qb (show Box V1 _ _ _ from by rw[hV];exact HXx.out.far (show Ox≠On from by first|exact hNxn|exact fun e=>hNnx e.symm) _);have HV1:=qb hV;clear hV;obtain⟨⟨v0,v1,v2,v3,v4⟩,g0,g1,g2,g3,g4⟩:=c5 HXn.out;go_wp2_with (first|(rw[←HUx.out,←HOx.out])|(rw[←HV1.out]));refine(qai [61] HF.out.rs HM.out).mono ?_;rintro e w9 ⟨rfl,hb⟩;replace HF:=qb (HF.out.on hb);replace HXn:=qb (HXn.out.on hb);replace HXx:=qb (HXx.out.on hb);clear hb;have HE:=qb (HF.out.no);go_wp2_with fail;try go_ret
 rw[HP.out];exact HE.out
theorem qeA{a:Int}(h:Rd l v w0 rb A i G z w)(ha:I64 a)(hc:cnt G≤1049600)(hk:(qh l i).kind=1)(hm:isM l (i+1) [61]=true):
   Calls Tryz.prog 69 #[.pointer (some ⟨rb,0,none⟩),.agg #[.int .i64 31,.int .i64 a,.int .i64 0,.string ⟨#[]⟩,.slice none 0 0]] w (qw l v w0 rb A w (qbp l (i+2) (fun n=>.mk 31 a 0 (qh l i).text [n]) G z)):=by
 obtain⟨P,hP⟩:=qc (qw l v w0 rb A w (qbp l (i+2) (fun n=>.mk 31 a 0 (qh l i).text [n]) G z):Ending→World→Prop);rw[←hP];have HP:=qb hP;clear hP;have HLEN:=qb h.env.src.len;have hA:∀b,A b→A b:=fun _ q=>q;have HK:=qb hk;have HC:=qb hc;have hin:=qC (l:=l) (i:=i) (by rw[hk];decide);have HJ:Hid (I64 (i+1)):=qb (by have:=HLEN.out;unfold I64;omega);have HIN:=qb hin;have HDF:Hid (Hd (.mk 31 a 0 (qh l i).text [])):=qb ⟨by show I64 31;unfold I64;omega,ha,by show I64 0;unfold I64;omega,(h.env.src.fair i).2.2⟩;have HM:=qb hm;have hin2:=qu hm;have HJ2:Hid (I64 (i+1+1)):=qb (by have:=HLEN.out;unfold I64;omega);have HI2:Hid (i+1+1≤(l.length:Int)):=qb (by omega);have HF:=qb (Fx.start h hA);obtain⟨On,hO⟩:=qc w.heap.size;obtain⟨Un,hU⟩:=qc (w.alloc (.cells #[.int .i64 31,.int .i64 a,.int .i64 0,.string ⟨#[]⟩,.slice none 0 0] qi));have hb:Below w.heap.size w Un:=by rw[hU];exact qd.alloc qe _
 have HLn:Hid (w.heap.size≤On):=qb (by rw[hO];exact HF.out.sz);have hNn:¬On=rb:=fun e=>by have h1:=HLn.out;have h2:=HF.out.lt;omega
 have hMn:¬rb=On:=fun e=>hNn e.symm;have HNn:=qb hNn;replace HF:=qb (HF.out.on hb);have HXn:Hid (Box Un On qi #[.int .i64 31,.int .i64 a,.int .i64 0,.string ⟨#[]⟩,.slice none 0 0]):=qb (by rw[hU];exact Box.new _ _ _ _ hO);have HUn:=qb hU;have HOn:=qb hO;clear hU hO hb;clear h hA hk ha hc hin hm hin2;go_enter Tryz.func69,Tryz.ntmps69
 go_wp2_with (first|(rw[←HUn.out,←HOn.out]));refine(qas HF.out.rs HK.out).mono ?_;rintro e w1 ⟨sx,rfl,hk1,hm⟩;obtain⟨Ax,cx,rfl,_⟩:=hk1.form;replace HF:=qb (HF.out.moved hm HJ.out);replace HXn:=qb (hm.other HXn.out HNn.out);clear hm hk1;obtain⟨nm,hnm⟩:=qc ((qh l i).text);rw[←hnm]at HP HDF ⊢;clear hnm;simp only[List.length_nil];obtain⟨Ox,hO⟩:=qc w1.heap.size;obtain⟨Ux,hU⟩:=qc (w1.alloc (.cells #[.int .i64 12,.int .i64 (qh l i).at_,.int .i64 0,.string ⟨nm.toArray⟩,.slice Ax 0 cx] qi));have hb:Below w1.heap.size w1 Ux:=by rw[hU];exact qd.alloc qe _
 have HLx:Hid (w.heap.size≤Ox):=qb (by rw[hO];exact HF.out.sz);have hNx:¬Ox=rb:=fun e=>by have h1:=HLx.out;have h2:=HF.out.lt;omega
 have hMx:¬rb=Ox:=fun e=>hNx e.symm;have HNx:=qb hNx;have hNxn:¬Ox=On:=fun e=>by have h1:=HXn.out.lt;omega
 have hNnx:¬On=Ox:=fun e=>hNxn e.symm;replace HF:=qb (HF.out.on hb);replace HXn:=qb (HXn.out.on hb);have HXx:Hid (Box Ux Ox qi #[.int .i64 12,.int .i64 (qh l i).at_,.int .i64 0,.string ⟨nm.toArray⟩,.slice Ax 0 cx]):=qb (by rw[hU];exact Box.new _ _ _ _ hO);have HUx:=qb hU;have HOx:=qb hO;clear hU hO hb;obtain⟨⟨xn_0,xn_1,xn_2,xn_3,xn_4⟩,fn_0,fn_1,fn_2,fn_3,fn_4⟩:=c5 HXn.out;obtain⟨⟨xx_0,xx_1,xx_2,xx_3,xx_4⟩,fx_0,fx_1,fx_2,fx_3,fx_4⟩:=c5 HXx.out;obtain⟨V1,hV⟩:=qc (Ux.setCell ⟨On,3,none⟩ (.string ⟨nm.toArray⟩));replace HF:=qb (show Fx _ _ _ _ _ _ _ _ _ _ V1 from by rw[hV];exact HF.out.set HLn.out _);replace HXn:Hid (Box V1 On qi #[.int .i64 31,.int .i64 a,.int .i64 0,.string ⟨nm.toArray⟩,.slice none 0 0]):=qb (by rw[hV];exact HXn.out.set 3 _);replace HXx:=qb (show Box V1 _ _ _ from by rw[hV];exact HXx.out.far (show Ox≠On from by first|exact hNxn|exact fun e=>hNnx e.symm) _);have HV1:=qb hV;clear hV;obtain⟨⟨v0,v1,v2,v3,v4⟩,g0,g1,g2,g3,g4⟩:=c5 HXn.out;go_wp2_with (first|(rw[←HUx.out,←HOx.out])|(rw[←HV1.out]));refine(qac [61] HF.out.rs HM.out).mono ?_;rintro e w9 ⟨rfl,hm⟩;replace HF:=qb (HF.out.moved hm HJ2.out);replace HXn:=qb (hm.other HXn.out HNn.out);replace HXx:=qb (hm.other HXx.out HNx.out);clear hm;obtain⟨⟨xn_0,xn_1,xn_2,xn_3,xn_4⟩,fn_0,fn_1,fn_2,fn_3,fn_4⟩:=c5 HXn.out;go_wp2_with fail;refine(qcv (.mk 31 a 0 nm []) (.slice none 0 0) HF.out.rd HF.out.upA (qaZ _ _ _) (by simp[NT.kids]) HDF.out HC.out HI2.out).mono ?_;intro e w2 hp;obtain⟨bo,rfl,hp2⟩:=hp.form;have HE:=qb (HF.out.of hp2);clear hp hp2;clear xn_0 xn_1 xn_2 xn_3 xn_4 fn_0 fn_1 fn_2 fn_3 fn_4;rw[show i+1+1=i+2 by omega]at HE;go_wp2_with fail;try go_ret
 rw[HP.out];exact HE.out
theorem qlX{a:Int}(h:Rd l v w0 rb A i G z w)(ha:I64 a)(hc:cnt G≤1049600):
   Calls Tryz.prog 71 #[.pointer (some ⟨rb,0,none⟩),.agg #[.int .i64 36,.int .i64 a,.int .i64 0,.string ⟨#[]⟩,.slice none 0 0]] w (qw l v w0 rb A w (qhR l i a G z)):=by
 unfold qhR;by_cases hk:(qh l i).kind=1
 · rw[if_pos hk];exact qlY h ha hc hk
 · rw[if_neg hk];exact qnt h hk
theorem qg1{a:Int}(h:Rd l v w0 rb A i G z w)(ha:I64 a)(hc:cnt G≤1049600):
   Calls Tryz.prog 69 #[.pointer (some ⟨rb,0,none⟩),.agg #[.int .i64 31,.int .i64 a,.int .i64 0,.string ⟨#[]⟩,.slice none 0 0]] w (qw l v w0 rb A w (qmZ l i a G z)):=by
 unfold qmZ;by_cases hk:(qh l i).kind=1
 · rw[if_pos hk];by_cases hm:isM l (i+1) [61]=true
   · rw[if_pos hm];exact qeA h ha hc hk hm
   · rw[if_neg hm];exact qeP h ha hc hk (em.qo hm)
 · rw[if_neg hk];exact qip h hk
end Go.Proofs.YtdndfifkfjoffaaGreatDoor.pm.sx
namespace Go.Proofs.YtdndfifkfjoffaaGreatDoor.pm.sx
open Go.RowKit wd lx nt ne pm mem
open vt (I64 qft qt qv qZ qee Typ qc6)
variable{l:List Tk}{v:Value}{w0:World}{rb:Nat}{A A':Nat→Prop}{i j:Int}{G:List NT}{z:Option NT}{w:World}
theorem qj1{a:Int}{nm:List UInt8}{Bn:Option Addr}{bn:Nat}(h:Rd l v w0 rb A i G z w)(he:arR l i=.no j)(hj:I64 j):
   Calls Tryz.prog 102 #[.pointer (some ⟨rb,0,none⟩),.agg #[.int .i64 12,.int .i64 a,.int .i64 0,.string ⟨nm.toArray⟩,.slice Bn 0 bn]] w (qw l v w0 rb A w (.no j)):=by
 obtain⟨P,hP⟩:=qc (qw l v w0 rb A w (.no j):Ending→World→Prop);rw[←hP];have HP:=qb hP;clear hP;have HLEN:=qb h.env.src.len;have hA:∀b,A b→A b:=fun _ q=>q;have HJ:=qb hj;have HEX:=qb he;have HF:=qb (Fx.start h hA);obtain⟨On,hO⟩:=qc w.heap.size;obtain⟨Un,hU⟩:=qc (w.alloc (.cells #[.int .i64 12,.int .i64 a,.int .i64 0,.string ⟨nm.toArray⟩,.slice Bn 0 bn] qi));have hb:Below w.heap.size w Un:=by rw[hU];exact qd.alloc qe _
 have HLn:Hid (w.heap.size≤On):=qb (by rw[hO];exact HF.out.sz);have hNn:¬On=rb:=fun e=>by have h1:=HLn.out;have h2:=HF.out.lt;omega
 have hMn:¬rb=On:=fun e=>hNn e.symm;have HNn:=qb hNn;replace HF:=qb (HF.out.on hb);have HXn:Hid (Box Un On qi #[.int .i64 12,.int .i64 a,.int .i64 0,.string ⟨nm.toArray⟩,.slice Bn 0 bn]):=qb (by rw[hU];exact Box.new _ _ _ _ hO);have HUn:=qb hU;have HOn:=qb hO;clear hU hO hb;clear h hA hj he;go_enter Tryz.func102,Tryz.ntmps102
 have hs0:=HF.out.rs;obtain⟨Av,cv,_,_,_,_,_,_,_,_,hv,hbx⟩:=hs0.box;have HBX:=qb hbx;have hsr:=hs0.src
 have HCALL:Hid (∀w',Below Un.heap.size Un w'→Calls Tryz.prog 118 #[.slice Av l.length cv,.int .i64 i] w' (qe3 (.no j) w')):=qb (fun w' hb=>by
   obtain⟨f,r,h1,h2⟩:=qfW i (hs0.on hb).src (hs0.on hb).fine hs0.num (hs0.on hb).ld;have e1:=qlp h1;rw[HEX.out]at e1;rw[←hv,e1];exact h2)
 have HCE:Hid (∀w',Below Un.heap.size Un w'→w'.cell? ⟨rb,0,none⟩=some (.slice Av l.length cv)∧w'.cell? ⟨rb,1,none⟩=some (.int .i64 i)):=qb (fun w' hb=>by
   have q:=HBX.out.on hb;have q0:=q.cell 0;have q1:=q.cell 1;simp only[qg]at q0 q1;exact⟨q0.trans (by rw[hv]),q1⟩)
 obtain⟨c0,c1⟩:=HCE.out Un qd;obtain⟨L,hL⟩:=qc l.length;rw[←hL]at HCALL HCE c0;clear hbx hs0 hsr hv hL;go_wp2_with (first|(rw[←HUn.out,←HOn.out]))
 go_region_held3 (fun w'=>w'.cell? ⟨rb,0,none⟩=some (.slice Av L cv)∧w'.cell? ⟨rb,1,none⟩=some (.int .i64 i)) (first|go_keep)
   (first
     |(go_at_call 118;(with_reducible refine(HCALL.out _ (qd.drew)).mono ?_);intro e w2 hp2;obtain⟨Aq,cq,rfl,hb2⟩:=hp2;have hb2':Below Un.heap.size Un w2:=(Below.refl _ Un).drew.trans (hb2.mono (by simp));obtain⟨p0,p1⟩:=HCE.out w2 hb2';have HB2:=qb hb2';clear hb2 hb2'))
 have fr1:=(HBX.out.on HB2.out).frozen 1;obtain⟨V,hV⟩:=qc (w2.setCell ⟨rb,1,none⟩ (.int .i64 j));have hmv:Mv v rb i j Un V:=by rw[hV];exact qd4 HB2.out
 have hltn:=HXn.out.lt;replace HF:=qb (HF.out.moved hmv HJ.out);replace HXn:=qb (hmv.other HXn.out HNn.out);have HV:=qb hV;clear hV hmv c0 c1;have HE:=qb (HF.out.no);go_wp2_with (first|(rw[←HV.out]));try go_ret
 rw[HP.out];exact HE.out
theorem qj2{a:Int}{nm:List UInt8}{Bn:Option Addr}{bn:Nat}(h:Rd l v w0 rb A i G z w)(ns:List NT)(ha:I64 a)(hnm:nm.length≤281474976710656)(hc:cnt G≤1049600)(he:arR l i=.list ns j)(hj:I64 j):
   Calls Tryz.prog 102 #[.pointer (some ⟨rb,0,none⟩),.agg #[.int .i64 12,.int .i64 a,.int .i64 0,.string ⟨nm.toArray⟩,.slice Bn 0 bn]] w (qw l v w0 rb A w (qcV l j (.mk 38 a 0 [] [.mk 17 a 0 nm ns]) G z)):=by
 obtain⟨P,hP⟩:=qc (qw l v w0 rb A w (qcV l j (.mk 38 a 0 [] [.mk 17 a 0 nm ns]) G z):Ending→World→Prop);rw[←hP];have HP:=qb hP;clear hP;have HLEN:=qb h.env.src.len;have hA:∀b,A b→A b:=fun _ q=>q;have HJ:=qb hj;have HEX:=qb he;have HC:=qb hc;have HD17:Hid (Hd (.mk 17 a 0 nm ns)):=qb ⟨by show I64 17;unfold I64;omega,ha,by show I64 0;unfold I64;omega,hnm⟩;have HD38:Hid (Hd (.mk 38 a 0 [] [.mk 17 a 0 nm ns])):=qb ⟨by show I64 38;unfold I64;omega,ha,by show I64 0;unfold I64;omega,by show 0≤281474976710656;omega⟩;have HF:=qb (Fx.start h hA);obtain⟨On,hO⟩:=qc w.heap.size;obtain⟨Un,hU⟩:=qc (w.alloc (.cells #[.int .i64 12,.int .i64 a,.int .i64 0,.string ⟨nm.toArray⟩,.slice Bn 0 bn] qi));have hb:Below w.heap.size w Un:=by rw[hU];exact qd.alloc qe _
 have HLn:Hid (w.heap.size≤On):=qb (by rw[hO];exact HF.out.sz);have hNn:¬On=rb:=fun e=>by have h1:=HLn.out;have h2:=HF.out.lt;omega
 have hMn:¬rb=On:=fun e=>hNn e.symm;have HNn:=qb hNn;replace HF:=qb (HF.out.on hb);have HXn:Hid (Box Un On qi #[.int .i64 12,.int .i64 a,.int .i64 0,.string ⟨nm.toArray⟩,.slice Bn 0 bn]):=qb (by rw[hU];exact Box.new _ _ _ _ hO);have HUn:=qb hU;have HOn:=qb hO;clear hU hO hb;clear h hA hj he hc ha hnm;go_enter Tryz.func102,Tryz.ntmps102
 have hs0:=HF.out.rs;obtain⟨Av,cv,_,_,_,_,_,_,_,_,hv,hbx⟩:=hs0.box;have HBX:=qb hbx;have hsr:=hs0.src
 have HCALL:Hid (∀w',Below Un.heap.size Un w'→Calls Tryz.prog 118 #[.slice Av l.length cv,.int .i64 i] w' (qe3 (.list ns j) w')):=qb (fun w' hb=>by
   obtain⟨f,r,h1,h2⟩:=qfW i (hs0.on hb).src (hs0.on hb).fine hs0.num (hs0.on hb).ld;have e1:=qlp h1;rw[HEX.out]at e1;rw[←hv,e1];exact h2)
 have HCE:Hid (∀w',Below Un.heap.size Un w'→w'.cell? ⟨rb,0,none⟩=some (.slice Av l.length cv)∧w'.cell? ⟨rb,1,none⟩=some (.int .i64 i)):=qb (fun w' hb=>by
   have q:=HBX.out.on hb;have q0:=q.cell 0;have q1:=q.cell 1;simp only[qg]at q0 q1;exact⟨q0.trans (by rw[hv]),q1⟩)
 obtain⟨c0,c1⟩:=HCE.out Un qd;obtain⟨L,hL⟩:=qc l.length;rw[←hL]at HCALL HCE c0;clear hbx hs0 hsr hv hL;go_wp2_with (first|(rw[←HUn.out,←HOn.out]))
 go_region_held3 (fun w'=>w'.cell? ⟨rb,0,none⟩=some (.slice Av L cv)∧w'.cell? ⟨rb,1,none⟩=some (.int .i64 i)) (first|go_keep)
   (first
     |(go_at_call 118;(with_reducible refine(HCALL.out _ (qd.drew)).mono ?_);intro e w2 hp2;obtain⟨s2,rfl,hk2,hb2⟩:=hp2;obtain⟨Aq,cq,rfl,_⟩:=hk2.form;have HKq:=qb hk2;clear hk2;have hb2':Below Un.heap.size Un w2:=(Below.refl _ Un).drew.trans (hb2.mono (by simp));obtain⟨p0,p1⟩:=HCE.out w2 hb2';have HB2:=qb hb2';clear hb2 hb2'))
 have fr1:=(HBX.out.on HB2.out).frozen 1;obtain⟨V,hV⟩:=qc (w2.setCell ⟨rb,1,none⟩ (.int .i64 j));have hmv:Mv v rb i j Un V:=by rw[hV];exact qd4 HB2.out
 have hltn:=HXn.out.lt;replace HF:=qb (HF.out.moved hmv HJ.out);replace HXn:=qb (hmv.other HXn.out HNn.out);have HKa:Hid (nt.ql (fun b=>w.heap.size≤b) V ns (.slice Aq ns.length cq)):=qb (by rw[hV];exact(HKq.out.mono fun b q=>by have q:Un.drew.heap.size≤b:=q;have h2:Un.drew.heap.size=Un.heap.size:=rfl;have h3:=hltn;have h4:=HLn.out;have h5:=HB2.out.size;omega).keep fun b o hb _=>World.cell?_of_block (Below.heap_setCell w2 ⟨rb,1,none⟩ _ b (by show b≠rb;have:=HF.out.lt;omega)));have HQa:=qb (qi2 (rb:=rb) (w:=w) HF.out.lt);have HV:=qb hV;clear hV hmv c0 c1;obtain⟨⟨p1xn_0,p1xn_1,p1xn_2,p1xn_3,p1xn_4⟩,p1fn_0,p1fn_1,p1fn_2,p1fn_3,p1fn_4⟩:=c5 HXn.out;obtain⟨Oc,hO⟩:=qc V.heap.size;obtain⟨Uc,hU⟩:=qc (V.alloc (.cells #[.int .i64 17,.int .i64 a,.int .i64 0,.string ⟨nm.toArray⟩,.slice Aq ns.length cq] qi));have hb:Below V.heap.size V Uc:=by rw[hU];exact qd.alloc qe _
 have HLc:Hid (w.heap.size≤Oc):=qb (by rw[hO];exact HF.out.sz);have hNc:¬Oc=rb:=fun e=>by have h1:=HLc.out;have h2:=HF.out.lt;omega
 have hMc:¬rb=Oc:=fun e=>hNc e.symm;have HNc:=qb hNc;have hNcn:¬Oc=On:=fun e=>by have h1:=HXn.out.lt;omega
 have hNnc:¬On=Oc:=fun e=>hNcn e.symm;replace HF:=qb (HF.out.on hb);replace HXn:=qb (HXn.out.on hb);replace HKa:=qb (HKa.out.below hb);have HXc:Hid (Box Uc Oc qi #[.int .i64 17,.int .i64 a,.int .i64 0,.string ⟨nm.toArray⟩,.slice Aq ns.length cq]):=qb (by rw[hU];exact Box.new _ _ _ _ hO);have HUc:=qb hU;have HOc:=qb hO;clear hU hO hb;have HDcc:Hid (Hd (.mk 17 a 0 nm ns)):=HD17;obtain⟨cc,hcc⟩:∃cc:NT,cc=.mk 17 a 0 nm ns:=⟨_,rfl⟩;have HKcc:Hid (nt.ql (fun b=>w.heap.size≤b) Uc cc.kids (.slice Aq ns.length cq)):=qb (by rw[hcc];exact HKa.out);have HQcc:=HQa;rw[←hcc]at HDcc;have HCC:=qb hcc;clear hcc;obtain⟨⟨p2xn_0,p2xn_1,p2xn_2,p2xn_3,p2xn_4⟩,p2fn_0,p2fn_1,p2fn_2,p2fn_3,p2fn_4⟩:=c5 HXn.out;obtain⟨⟨p2xc_0,p2xc_1,p2xc_2,p2xc_3,p2xc_4⟩,p2fc_0,p2fc_1,p2fc_2,p2fc_3,p2fc_4⟩:=c5 HXc.out;obtain⟨Orr,hO⟩:=qc Uc.heap.size;obtain⟨Ur,hU⟩:=qc (Uc.alloc (.cells #[.int .i64 17,.int .i64 a,.int .i64 0,.string ⟨nm.toArray⟩,.slice Aq ns.length cq] qi));have hb:Below Uc.heap.size Uc Ur:=by rw[hU];exact qd.alloc qe _
 have hsz:=HF.out.sz;have hkr:nt.ql (fun b=>w.heap.size≤b) Ur [cc] (.slice (some ⟨Orr,0,none⟩) 1 1):=by rw[hU];exact(by have q:=qcC hO HDcc.out HKcc.out (by rw[hO];exact hsz);rw[HCC.out]at q ⊢;exact q)
 have hNrn:¬Orr=On:=fun e=>by have h1:=HXn.out.lt;omega
 have hNnr:¬On=Orr:=fun e=>hNrn e.symm;have hNrc:¬Orr=Oc:=fun e=>by have h1:=HXc.out.lt;omega
 have hNcr:¬Oc=Orr:=fun e=>hNrc e.symm;replace HF:=qb (HF.out.on hb);replace HXn:=qb (HXn.out.on hb);replace HXc:=qb (HXc.out.on hb);replace HKcc:=qb (HKcc.out.below hb);have HKr:=qb hkr;have HUr:=qb hU;have HOrr:=qb hO;clear hU hO hb hkr hsz;have HQr:=HQcc;rw[HCC.out]at HKr;obtain⟨⟨xn_0,xn_1,xn_2,xn_3,xn_4⟩,fn_0,fn_1,fn_2,fn_3,fn_4⟩:=c5 HXn.out;obtain⟨⟨xc_0,xc_1,xc_2,xc_3,xc_4⟩,fc_0,fc_1,fc_2,fc_3,fc_4⟩:=c5 HXc.out;go_wp2_with (first|(rw[←HV.out])|(rw[←HUc.out,←HOc.out])|(rw[←HUr.out,←HOrr.out]));refine(qdf (.mk 38 a 0 [] [.mk 17 a 0 nm ns]) (.slice (some ⟨Orr,0,none⟩) 1 1) HF.out.rd HF.out.upA (HF.out.hand (HF.out.fresh HKr.out)) HD38.out HC.out).mono ?_;intro e w9 hp;obtain⟨bo,rfl,hp2⟩:=hp.form;have HE:=qb (HF.out.of hp2);clear hp hp2;clear xn_0 xn_1 xn_2 xn_3 xn_4 fn_0 fn_1 fn_2 fn_3 fn_4 xc_0 xc_1 xc_2 xc_3 xc_4 fc_0 fc_1 fc_2 fc_3 fc_4;go_wp2_with fail;try go_ret
 rw[HP.out];exact HE.out
theorem qlz{a:Int}{nm:List UInt8}{Bn:Option Addr}{bn:Nat}(h:Rd l v w0 rb A i G z w)(ha:I64 a)(hnm:nm.length≤281474976710656)(hc:cnt G≤1049600)(hi:i≤(l.length:Int)):
   Calls Tryz.prog 102 #[.pointer (some ⟨rb,0,none⟩),.agg #[.int .i64 12,.int .i64 a,.int .i64 0,.string ⟨nm.toArray⟩,.slice Bn 0 bn]] w (qw l v w0 rb A w (qaO l i a nm G z)):=by
 have he:=qhf l i;have hlen:=h.env.src.len;have hn:=h.num;unfold qaO
 cases hx:arR l i with
 |list ns j=>rw[hx]at he;exact qj2 h ns ha hnm hc hx (by unfold I64 at hn ⊢;have h1:=he.2.1;have h2:=he.2.2.1 hi;omega)
 |no j=>rw[hx]at he;exact qj1 h hx (by unfold I64 at hn ⊢;have h1:=he.1;have h2:=he.2 hi;omega)
 |node n j=>rw[hx]at he;exact absurd he.1 (by simp[qL.lists])
end Go.Proofs.YtdndfifkfjoffaaGreatDoor.pm.sx
namespace Go.Proofs.YtdndfifkfjoffaaGreatDoor.pm.sx
open Go.RowKit wd lx nt ne pm mem
open vt (I64 qft qt qv qZ qee Typ qc6)
variable{l:List Tk}{v:Value}{w0:World}{rb:Nat}{A A':Nat→Prop}{i j:Int}{G:List NT}{z:Option NT}{w:World}
theorem qfx(l:List Tk):∀(f:Nat) (i:Int) (n:NT) (r:Res),plF l f i n=some r→i≤(l.length:Int)→0≤i→match r with|.node _ j=>i≤j∧j≤(l.length:Int)|.list _ _=>False|.no j=>i≤j∧j≤(l.length:Int)
 |0,i,n,r,h,_,_=>by rw[plF]at h;cases h
 |f+1,i,n,r,h,hi,h0=>by
   rw[plF]at h;by_cases h1:isM l i [91]=true
   · rw[if_pos h1]at h;have hin:=qu h1;have he:=qbD l (i+1)
     cases hx:exR l (i+1)with
     |node x k=>
       rw[hx]at he h;have h:(if isM l k [93]=true then plF l f (k+1) (.mk 13 (qh l i).at_ 0 [] [n,x]) else some (.no k))=some r:=h;have e1:=he.2.1;have e2:=he.2.2.1 (by omega);by_cases h2:isM l k [93]=true
       · rw[if_pos h2]at h;have hin2:=qu h2;have q:=qfx l f _ _ _ h (by omega) (by omega)
         cases r with
         |node m j=>exact⟨by have:=q.1;omega,q.2⟩
         |list ms j=>exact q
         |no j=>exact⟨by have:=q.1;omega,q.2⟩
       · rw[if_neg h2]at h;cases h;exact⟨by omega,by omega⟩
     |list ns k=>rw[hx]at h;cases h
     |no k=>rw[hx]at he h;cases h;have e1:=he.1;have e2:=he.2 (by omega);exact⟨by omega,by omega⟩
   · rw[if_neg h1]at h;by_cases h2:isM l i [46]=true
     · rw[if_pos h2]at h;have hin:=qu h2;by_cases h3:(qh l (i+1)).kind=1
       · rw[if_pos h3]at h;have hin2:=qC (l:=l) (i:=i+1) (by rw[h3];decide);have q:=qfx l f _ _ _ h (by omega) (by omega)
         cases r with
         |node m j=>exact⟨by have:=q.1;omega,q.2⟩
         |list ms j=>exact q
         |no j=>exact⟨by have:=q.1;omega,q.2⟩
       · rw[if_neg h3]at h;cases h;exact⟨by omega,by omega⟩
     · rw[if_neg h2]at h;cases h;exact⟨by omega,hi⟩
def PlP(v:Value)(rb:Nat)(i:Int)(w:World)(r:Res)(e:Ending)(w':World):Prop:=
 match r with
 |.node n j=>∃s,e=.returned (.tuple #[.agg #[.int .i64 n.kind,.int .i64 n.at_,.int .i64 n.num,.string ⟨n.name.toArray⟩,s],.bool true])∧nt.ql (fun b=>w.heap.size≤b) w' n.kids s∧Hd n∧Mv v rb i j w w'
 |.no j=>∃(n:NT) (An:Option Addr) (cn:Nat),e=.returned (.tuple #[.agg #[.int .i64 n.kind,.int .i64 n.at_,.int .i64 n.num,.string ⟨n.name.toArray⟩,.slice An n.kids.length cn],.bool false])∧Mv v rb i j w w'
 |.list _ _=>False
def qeC(l:List Tk)(v:Value)(w0:World)(rb:Nat)(i:Int)(w:World)(P R:Nat)(r:Res)(g:Nat)(vok:Value)(wr:World):Prop:=
 (∃p n An cn,vok=.bool true∧Hid (plF l g p n=some r)∧Hid (0≤p∧p≤(l.length:Int))∧Hid (Mv v rb i p w wr)∧Hid (Rs l v w0 rb p wr)∧Hid (Box wr P qi #[.int .i64 n.kind,.int .i64 n.at_,.int .i64 n.num,.string ⟨n.name.toArray⟩,.slice An n.kids.length cn])∧Hid (nt.ql (fun b=>w.heap.size≤b∧b≠P∧b≠R) wr n.kids (.slice An n.kids.length cn))∧Hid (Hd n)∧Hid (Box wr R qi #[.int .i64 0,.int .i64 0,.int .i64 0,.string ⟨#[]⟩,.slice none 0 0]))∨
 (∃j,vok=.bool false∧r=.no j∧g=0∧Hid (Mv v rb i j w wr)∧Hid (Box wr R qi #[.int .i64 0,.int .i64 0,.int .i64 0,.string ⟨#[]⟩,.slice none 0 0]))
end Go.Proofs.YtdndfifkfjoffaaGreatDoor.pm.sx

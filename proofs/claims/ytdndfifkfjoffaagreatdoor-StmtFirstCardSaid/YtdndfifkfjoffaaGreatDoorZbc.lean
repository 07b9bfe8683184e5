/- The package's reader of statements: a statement goes on, and is read to its end. (and what it stands on) -/
import Derived.Test.YtdndfifkfjoffaaGreatDoorZay
import Derived.Test.YtdndfifkfjoffaaGreatDoorZbb
import Derived.Deep.LoopGhost
import Derived.Deep.RegionLaw
import Derived.Test.YtdndfifkfjoffaaGreatDoorZan
import Derived.Test.YtdndfifkfjoffaaGreatDoorZaa
set_option maxRecDepth 100000
set_option maxHeartbeats 4000000
namespace Go.Proofs.YtdndfifkfjoffaaGreatDoor.pm.sx
open Go.RowKit wd lx nt ne pm mem
open vt (I64 qft qt qv qZ qee Typ qc6)
variable{l:List Tk}{v:Value}{w0:World}{rb:Nat}{A A':Nat→Prop}{i j:Int}{G:List NT}{z:Option NT}{w:World}
theorem qce(h:Rd l v w0 rb A i G z w)(hc:cnt G≤1049400):
   Calls Tryz.prog 28 #[.pointer (some ⟨rb,0,none⟩)] w (qw l v w0 rb A w (qJ l i G z)):=by
 obtain⟨P,hP⟩:=qc (qw l v w0 rb A w (qJ l i G z):Ending→World→Prop);rw[←hP];have HP:=qb hP;clear hP;have HLEN:=qb h.env.src.len;have hA:∀b,A b→A b:=fun _ q=>q;have HC:=qb hc;have HC2:Hid (cnt G≤1049500):=qb (by omega);have HC3:Hid (cnt G≤1049600):=qb (by omega);have HAT:Hid (I64 (qh l i).at_):=qb (h.env.src.fair i).1;have HI0:=qb h.num;have HF:=qb (Fx.start h hA);clear h hA hc;go_enter Tryz.func28,Tryz.ntmps28
 have hfi:=fun w'=>em.qaB (qh l i) w';go_wp2_with fail;refine(qs HF.out.rs).mono ?_;rintro e w1 ⟨rfl,hb⟩;replace HF:=qb (HF.out.on hb);clear hb;unfold tkA;obtain⟨a,ha⟩:=qc ((qh l i).at_);rw[←ha]at hfi HAT ⊢;have HA9:=qb ha;clear ha;obtain⟨On,hO⟩:=qc w1.heap.size;obtain⟨Un,hU⟩:=qc (w1.alloc (.cells #[.int .i64 0,.int .i64 a,.int .i64 0,.string ⟨#[]⟩,.slice none 0 0] qi));have hb:Below w1.heap.size w1 Un:=by rw[hU];exact qd.alloc qe _
 have HLn:Hid (w.heap.size≤On):=qb (by rw[hO];exact HF.out.sz);have hNn:¬On=rb:=fun e=>by have h1:=HLn.out;have h2:=HF.out.lt;omega
 have hMn:¬rb=On:=fun e=>hNn e.symm;have HNn:=qb hNn;replace HF:=qb (HF.out.on hb);have HXn:Hid (Box Un On qi #[.int .i64 0,.int .i64 a,.int .i64 0,.string ⟨#[]⟩,.slice none 0 0]):=qb (by rw[hU];exact Box.new _ _ _ _ hO);have HUn:=qb hU;have HOn:=qb hO;clear hU hO hb;unfold qJ at HP;rw[←HA9.out]at HP
 cases h0:isM l i [123]with
 |true=>
     rw[h0]at HP;have HM:=qb h0;clear h0;go_wp2_with (first|(rw[←HUn.out,←HOn.out]));refine(qaC [123] HF.out.rs HM.out).mono ?_;rintro e w1 ⟨rfl,hb⟩;replace HF:=qb (HF.out.on hb);replace HXn:=qb (HXn.out.on hb);clear hb;go_wp2_with fail;refine(qcf (HF.out.rd.mono HF.out.upA) HC3.out).mono ?_;intro e w2 hp;obtain⟨bo,rfl,hp2⟩:=hp.form;have HE:=qb (HF.out.of hp2);clear hp hp2;go_wp2_with fail;try go_ret
     rw[HP.out]
     exact HE.out
 |false=>
   rw[h0]at HP;have HM0:=qb h0;clear h0;go_wp2_with (first|(rw[←HUn.out,←HOn.out]));refine(qaC [123] HF.out.rs HM0.out).mono ?_;rintro e w1 ⟨rfl,hb⟩;replace HF:=qb (HF.out.on hb);replace HXn:=qb (HXn.out.on hb);clear hb
   cases h1:pm.isW l i sIf with
   |true=>
       rw[h1]at HP;have HM:=qb h1;clear h1;go_wp2_with fail;refine(qd1 sIf HF.out.rs HM.out).mono ?_;rintro e w2 ⟨rfl,hb⟩;replace HF:=qb (HF.out.on hb);replace HXn:=qb (HXn.out.on hb);clear hb;go_wp2_with fail;refine(qfa (HF.out.rd.mono HF.out.upA) HC2.out).mono ?_;intro e w3 hp;obtain⟨bo,rfl,hp2⟩:=hp.form;have HE:=qb (HF.out.of hp2);clear hp hp2;go_wp2_with fail;try go_ret
       rw[HP.out]
       exact HE.out
   |false=>
     rw[h1]at HP;have HM1:=qb h1;clear h1;go_wp2_with fail;refine(qd1 sIf HF.out.rs HM1.out).mono ?_;rintro e w2 ⟨rfl,hb⟩;replace HF:=qb (HF.out.on hb);replace HXn:=qb (HXn.out.on hb);clear hb
     cases h2:pm.isW l i qcF with
     |true=>
         rw[h2]at HP;have HM:=qb h2;have hin:=qQ h2;clear h2;have HJ:Hid (I64 (i+1)):=qb (by have:=HLEN.out;unfold I64;omega);have HJ2:Hid (i+1≤(l.length:Int)):=qb (by omega);clear hin;go_wp2_with fail;refine(qal qcF HF.out.rs HM.out).mono ?_;rintro e w3 ⟨rfl,hm⟩;replace HF:=qb (HF.out.moved hm HJ.out);replace HXn:=qb (hm.other HXn.out HNn.out);clear hm;obtain⟨⟨xn_0,xn_1,xn_2,xn_3,xn_4⟩,fn_0,fn_1,fn_2,fn_3,fn_4⟩:=c5 HXn.out;obtain⟨V4,hV⟩:=qc (w3.setCell ⟨On,0,none⟩ (.int .i64 34));replace HF:=qb (show Fx _ _ _ _ _ _ _ _ _ _ V4 from by rw[hV];exact HF.out.set HLn.out _);replace HXn:Hid (Box V4 On qi #[.int .i64 34,.int .i64 a,.int .i64 0,.string ⟨#[]⟩,.slice none 0 0]):=qb (by rw[hV];exact HXn.out.set 0 _);have HV4:=qb hV;clear hV;obtain⟨⟨v0,v1,v2,v3,v4⟩,g0,g1,g2,g3,g4⟩:=c5 HXn.out;go_wp2_with (first|(rw[←HV4.out]));refine(qfi (HF.out.rd.mono HF.out.upA) ⟨by unfold I64;omega,HAT.out⟩ HC2.out HJ2.out).mono ?_;intro e w9 hp;obtain⟨bo,rfl,hp2⟩:=hp.form;have HE:=qb (HF.out.of hp2);clear hp hp2;go_wp2_with fail;try go_ret
         rw[HP.out]
         exact HE.out
     |false=>
       rw[h2]at HP;have HM2:=qb h2;clear h2;go_wp2_with fail;refine(qay qcF HF.out.rs HM2.out).mono ?_;rintro e w3 ⟨rfl,hb⟩;replace HF:=qb (HF.out.on hb);replace HXn:=qb (HXn.out.on hb);clear hb
       cases h3:pm.isW l i qgQ with
       |true=>
           rw[h3]at HP;have HM:=qb h3;have hin:=qQ h3;clear h3;have HJ:Hid (I64 (i+1)):=qb (by have:=HLEN.out;unfold I64;omega);have HJ2:Hid (i+1≤(l.length:Int)):=qb (by omega);clear hin;go_wp2_with fail;refine(qal qgQ HF.out.rs HM.out).mono ?_;rintro e w4 ⟨rfl,hm⟩;replace HF:=qb (HF.out.moved hm HJ.out);replace HXn:=qb (hm.other HXn.out HNn.out);clear hm;obtain⟨⟨xn_0,xn_1,xn_2,xn_3,xn_4⟩,fn_0,fn_1,fn_2,fn_3,fn_4⟩:=c5 HXn.out;obtain⟨V5,hV⟩:=qc (w4.setCell ⟨On,0,none⟩ (.int .i64 31));replace HF:=qb (show Fx _ _ _ _ _ _ _ _ _ _ V5 from by rw[hV];exact HF.out.set HLn.out _);replace HXn:Hid (Box V5 On qi #[.int .i64 31,.int .i64 a,.int .i64 0,.string ⟨#[]⟩,.slice none 0 0]):=qb (by rw[hV];exact HXn.out.set 0 _);have HV5:=qb hV;clear hV;obtain⟨⟨v0,v1,v2,v3,v4⟩,g0,g1,g2,g3,g4⟩:=c5 HXn.out;go_wp2_with (first|(rw[←HV5.out]));refine(qg1 (HF.out.rd.mono HF.out.upA) HAT.out HC3.out).mono ?_;intro e w9 hp;obtain⟨bo,rfl,hp2⟩:=hp.form;have HE:=qb (HF.out.of hp2);clear hp hp2;go_wp2_with fail;try go_ret
           rw[HP.out]
           exact HE.out
       |false=>
         rw[h3]at HP;have HM3:=qb h3;clear h3;go_wp2_with fail;refine(qay qgQ HF.out.rs HM3.out).mono ?_;rintro e w4 ⟨rfl,hb⟩;replace HF:=qb (HF.out.on hb);replace HXn:=qb (HXn.out.on hb);clear hb
         cases h4:pm.isW l i qbM with
         |true=>
             rw[h4]at HP;have HM:=qb h4;have hin:=qQ h4;clear h4;have HJ:Hid (I64 (i+1)):=qb (by have:=HLEN.out;unfold I64;omega);have HJ2:Hid (i+1≤(l.length:Int)):=qb (by omega);clear hin;go_wp2_with fail;refine(qal qbM HF.out.rs HM.out).mono ?_;rintro e w5 ⟨rfl,hm⟩;replace HF:=qb (HF.out.moved hm HJ.out);replace HXn:=qb (hm.other HXn.out HNn.out);clear hm;obtain⟨⟨xn_0,xn_1,xn_2,xn_3,xn_4⟩,fn_0,fn_1,fn_2,fn_3,fn_4⟩:=c5 HXn.out;obtain⟨V6,hV⟩:=qc (w5.setCell ⟨On,0,none⟩ (.int .i64 35));replace HF:=qb (show Fx _ _ _ _ _ _ _ _ _ _ V6 from by rw[hV];exact HF.out.set HLn.out _);replace HXn:Hid (Box V6 On qi #[.int .i64 35,.int .i64 a,.int .i64 0,.string ⟨#[]⟩,.slice none 0 0]):=qb (by rw[hV];exact HXn.out.set 0 _);have HV6:=qb hV;clear hV;obtain⟨⟨v0,v1,v2,v3,v4⟩,g0,g1,g2,g3,g4⟩:=c5 HXn.out;go_wp2_with (first|(rw[←HV6.out]));refine(qe8 (HF.out.rd.mono HF.out.upA) HAT.out HC3.out HJ2.out).mono ?_;intro e w9 hp;obtain⟨bo,rfl,hp2⟩:=hp.form;have HE:=qb (HF.out.of hp2);clear hp hp2;go_wp2_with fail;try go_ret
             rw[HP.out]
             exact HE.out
         |false=>
           rw[h4]at HP;have HM4:=qb h4;clear h4;go_wp2_with fail;refine(qay qbM HF.out.rs HM4.out).mono ?_;rintro e w5 ⟨rfl,hb⟩;replace HF:=qb (HF.out.on hb);replace HXn:=qb (HXn.out.on hb);clear hb
           cases h5:pm.isW l i qed with
           |true=>
               rw[h5]at HP;have HM:=qb h5;have hin:=qQ h5;clear h5;have HJ:Hid (I64 (i+1)):=qb (by have:=HLEN.out;unfold I64;omega);have HJ2:Hid (i+1≤(l.length:Int)):=qb (by omega);clear hin;go_wp2_with fail;refine(qal qed HF.out.rs HM.out).mono ?_;rintro e w6 ⟨rfl,hm⟩;replace HF:=qb (HF.out.moved hm HJ.out);replace HXn:=qb (hm.other HXn.out HNn.out);clear hm;obtain⟨⟨xn_0,xn_1,xn_2,xn_3,xn_4⟩,fn_0,fn_1,fn_2,fn_3,fn_4⟩:=c5 HXn.out;obtain⟨V7,hV⟩:=qc (w6.setCell ⟨On,0,none⟩ (.int .i64 36));replace HF:=qb (show Fx _ _ _ _ _ _ _ _ _ _ V7 from by rw[hV];exact HF.out.set HLn.out _);replace HXn:Hid (Box V7 On qi #[.int .i64 36,.int .i64 a,.int .i64 0,.string ⟨#[]⟩,.slice none 0 0]):=qb (by rw[hV];exact HXn.out.set 0 _);have HV7:=qb hV;clear hV;obtain⟨⟨v0,v1,v2,v3,v4⟩,g0,g1,g2,g3,g4⟩:=c5 HXn.out;go_wp2_with (first|(rw[←HV7.out]));refine(qlX (HF.out.rd.mono HF.out.upA) HAT.out HC3.out).mono ?_;intro e w9 hp;obtain⟨bo,rfl,hp2⟩:=hp.form;have HE:=qb (HF.out.of hp2);clear hp hp2;go_wp2_with fail;try go_ret
               rw[HP.out]
               exact HE.out
           |false=>
             rw[h5]at HP;have HM5:=qb h5;clear h5;go_wp2_with fail;refine(qay qed HF.out.rs HM5.out).mono ?_;rintro e w6 ⟨rfl,hb⟩;replace HF:=qb (HF.out.on hb);replace HXn:=qb (HXn.out.on hb);clear hb
             cases h6:pm.isW l i qcE with
             |true=>
                 rw[h6]at HP;have HM:=qb h6;have hin:=qQ h6;clear h6;have HJ:Hid (I64 (i+1)):=qb (by have:=HLEN.out;unfold I64;omega);have HJ2:Hid (i+1≤(l.length:Int)):=qb (by omega);clear hin;have HDP:Hid (Hd (.mk 37 a 0 [] [])):=qb ⟨by show I64 37;unfold I64;omega,HAT.out,by show I64 0;unfold I64;omega,by show 0≤281474976710656;omega⟩;go_wp2_with fail;refine(qal qcE HF.out.rs HM.out).mono ?_;rintro e w7 ⟨rfl,hm⟩;replace HF:=qb (HF.out.moved hm HJ.out);replace HXn:=qb (hm.other HXn.out HNn.out);clear hm;obtain⟨⟨xn_0,xn_1,xn_2,xn_3,xn_4⟩,fn_0,fn_1,fn_2,fn_3,fn_4⟩:=c5 HXn.out;obtain⟨V8,hV⟩:=qc (w7.setCell ⟨On,0,none⟩ (.int .i64 37));replace HF:=qb (show Fx _ _ _ _ _ _ _ _ _ _ V8 from by rw[hV];exact HF.out.set HLn.out _);replace HXn:Hid (Box V8 On qi #[.int .i64 37,.int .i64 a,.int .i64 0,.string ⟨#[]⟩,.slice none 0 0]):=qb (by rw[hV];exact HXn.out.set 0 _);have HV8:=qb hV;clear hV;obtain⟨⟨v0,v1,v2,v3,v4⟩,g0,g1,g2,g3,g4⟩:=c5 HXn.out;go_wp2_with (first|(rw[←HV8.out]));refine(qcv (.mk 37 a 0 [] []) (.slice none 0 0) HF.out.rd HF.out.upA (qaZ _ _ _) (by simp[NT.kids]) HDP.out HC3.out HJ2.out).mono ?_;intro e w9 hp;obtain⟨bo,rfl,hp2⟩:=hp.form;have HE:=qb (HF.out.of hp2);clear hp hp2;go_wp2_with fail;try go_ret
                 rw[HP.out]
                 exact HE.out
             |false=>
               rw[h6]at HP;have HM6:=qb h6;clear h6;go_wp2_with fail;refine(qay qcE HF.out.rs HM6.out).mono ?_;rintro e w7 ⟨rfl,hb⟩;replace HF:=qb (HF.out.on hb);replace HXn:=qb (HXn.out.on hb);clear hb;go_wp2_with fail;refine(qkF (HF.out.rd.mono HF.out.upA) HC3.out).mono ?_;intro e w8 hp;obtain⟨bo,rfl,hp2⟩:=hp.form;have HE:=qb (HF.out.of hp2);clear hp hp2;go_wp2_with fail;try go_ret
               rw[HP.out];exact HE.out
end Go.Proofs.YtdndfifkfjoffaaGreatDoor.pm.sx
namespace Go.Proofs.YtdndfifkfjoffaaGreatDoor.pm.sx
open Go.RowKit wd lx nt ne pm mem
open vt (I64 qft qt qv qZ qee Typ qc6)
variable{l:List Tk}{v:Value}{w0:World}{rb:Nat}{A A':Nat→Prop}{i j:Int}{G:List NT}{z:Option NT}{vo:Value}{ss:List Value}{w X Y:World}
structure Gx(l:List Tk)(v:Value)(w0:World)(rb:Nat)(A:Nat→Prop)(w:World)(i:Int)(G:List NT)(z:Option NT)(vo:Value)(ss:List Value)(X:World):Prop where
 rd:RdX l v w0 rb A i G z vo ss X
 keep:qF A w X
 sz:w.heap.size≤X.heap.size
theorem Gx.on(h:Gx l v w0 rb A w i G z vo ss X)(hb:Below X.heap.size X Y):Gx l v w0 rb A w i G z vo ss Y:=⟨h.rd.on_ hb,h.keep.trans (h.rd.keepb hb),Nat.le_trans h.sz hb.size⟩
theorem Gx.moved(h:Gx l v w0 rb A w i G z vo ss X)(m:Mv v rb i j X Y)(hj:I64 j):Gx l v w0 rb A w j G z vo ss Y:=
 ⟨(h.rd.next (fun k h1 _ h3=>m.grow.block k h1 (fun e=>by injection e with e;exact h3 e)) (h.rd.low.grown m.grow h.rd.low.size (fun k hk=>by injection hk with hk;rw[←hk];exact h.rd.hB)) m.grow.size hj m.box).mono fun _ q=>Or.inl q,
  h.keep.trans fun b q=>m.grow.block b (h.rd.ap b q).2.1 fun e=>by injection e with e;exact(h.rd.ap b q).2.2.1 e,Nat.le_trans h.sz m.grow.size⟩
theorem Gx.rs(h:Gx l v w0 rb A w i G z vo ss X):Rs l v w0 rb i X:=Rd.rs ⟨vo,ss,h.rd⟩
theorem Gx.rdd(h:Gx l v w0 rb A w i G z vo ss X):Rd l v w0 rb A i G z X:=⟨vo,ss,h.rd⟩
theorem qiR(f:NT)(h:Rd l v w0 rb A i (f::G) z w)(hc:cnt (f::G)≤1049400)(hk:f.kind=30)(hm:isM l i [125]=false):
   Calls Tryz.prog 62 #[.pointer (some ⟨rb,0,none⟩)] w (qw l v w0 rb A w (qJ l i (f::G) z)):=by
 obtain⟨P,hP⟩:=qc (qw l v w0 rb A w (qJ l i (f::G) z):Ending→World→Prop);rw[←hP];have HP:=qb hP;clear hP;have HLEN:=qb h.env.src.len;have HC:=qb hc;have HI0:=qb h.num;have k30:(f.kind==30)=true:=beq_iff_eq.2 hk;have HM:=qb hm;obtain⟨vo,ss,hx⟩:=h;obtain⟨g,c,s,rest,rfl,rfl,hgB,hgl,hgr,hgc,hcell,hfz⟩:=hx.top;have hfr:=hx.frs;rw[Frs]at hfr;obtain⟨s1,rest1,xs,he,h1,h2,h3,h4,h5⟩:=hfr;injection he with he1 he2
 subst he1 he2;obtain⟨As,cs,rfl⟩:=qt h1;obtain⟨n0,Al,kl,cl,hbx,hc2,hf2⟩:=hx.cells;obtain⟨N,hN⟩:=qc G.length;rw[←hN]at hx hc2 hcell hgc;have hNb:N≤1049600:=by rw[hN];have:=qbA G;rw[cnt]at hc;omega
 have e0:=hcell 0 _ rfl;have e1:=hcell 1 _ rfl;have e2:=hcell 2 _ rfl;have e3:=hcell 3 _ rfl;have e4:=hcell 4 _ rfl;rw[Nat.add_zero]at e0;have x3:IntKind.i64.wrap ((N:Int)+1-1)=N:=by rw[IntWalk.i64_in _ (by omega)];omega
 have x4:IntKind.i64.wrap (N:Int)=N:=IntWalk.i64_in _ (by omega);have x6:(0:Int)≤(N:Int):=by omega
 have x7:(N:Int)<(N:Int)+1:=by omega
 have hMc:(N:Int)≤c:=by omega
 have hrz:rb<w.heap.size:=hbx.lt;obtain⟨L,hL⟩:=qc w.heap.size;obtain⟨W1,hW1⟩:=qc ((w.alloc (.cells #[.int .i64 f.kind,.int .i64 f.at_,.int .i64 f.num,.string ⟨f.name.toArray⟩,.slice As f.kids.length cs] qi)).drew);have hb1:Below w.heap.size w W1:=by rw[hW1];exact(qd.alloc qe _).drew
 have HXn:Hid (Box W1 L qi #[.int .i64 f.kind,.int .i64 f.at_,.int .i64 f.num,.string ⟨f.name.toArray⟩,.slice As f.kids.length cs]):=qb (by rw[hW1];exact(Box.new _ _ _ _ hL).drew);have HG:Hid (Gx l v w0 rb A w i (f::G) z (.slice (some ⟨g,0,none⟩) (N+1) c) (.slice As f.kids.length cs::rest) W1):=qb ⟨hx.on_ hb1,hx.keepb hb1,hb1.size⟩;have hnl:¬L=rb:=by omega
 have hln:¬rb=L:=by omega
 have HN:=qb hN;have HW1:=qb hW1;have HL:=qb hL;have HD:=qb h3;clear hL hW1 hb1 hx hfz hcell hc hbx hf2 hN h1 h2 h3 h4 h5 hgB hk hm;go_enter Tryz.func62,Tryz.ntmps62
 go_wp2_with fail;go_region_held3 (fun w'=>w'.cell? ⟨rb,2,none⟩=some (.slice (some ⟨g,0,none⟩) (N+1) c)∧w'.cell? ⟨g,N*5,none⟩=some (.int .i64 f.kind)∧w'.cell? ⟨g,N*5+1,none⟩=some (.int .i64 f.at_)∧w'.cell? ⟨g,N*5+2,none⟩=some (.int .i64 f.num)∧w'.cell? ⟨g,N*5+3,none⟩=some (.string ⟨f.name.toArray⟩)∧w'.cell? ⟨g,N*5+4,none⟩=some (.slice As f.kids.length cs)) (first|go_keep) (first|fail)
 clear e0 e1 e2 e3 e4 hc2;rw[←HW1.out,←HL.out];obtain⟨⟨n0,n1,n2,n3,n4⟩,q0,q1,q2,q3,q4⟩:=c5 HXn.out;go_wp2_with fail;refine(qai [125] HG.out.rs HM.out).mono ?_;rintro e w2 ⟨rfl,hb⟩;replace HG:=qb (HG.out.on hb);replace HXn:=qb (HXn.out.on hb);clear hb n0 n1 n2 n3 n4 q0 q1 q2 q3 q4;go_wp2_with fail;refine(qce HG.out.rdd HC.out).mono ?_;intro e w9 hp;obtain⟨bo,rfl,hp2⟩:=hp.form;have HE:=qb (hp2.of HG.out.keep HG.out.sz);clear hp hp2;go_wp2_with fail;try go_ret
 rw[HP.out];exact HE.out
theorem qkq(f:NT)(h:Rd l v w0 rb A i (f::G) z w)(hc:cnt (f::G)≤1049400)(hk:f.kind=30)(hm:isM l i [125]=true):
   Calls Tryz.prog 62 #[.pointer (some ⟨rb,0,none⟩)] w (qw l v w0 rb A w (put (i+1) f G z)):=by
 obtain⟨P,hP⟩:=qc (qw l v w0 rb A w (put (i+1) f G z):Ending→World→Prop);rw[←hP];have HP:=qb hP;clear hP;have HLEN:=qb h.env.src.len;have HC:=qb hc;have HI0:=qb h.num;have k30:(f.kind==30)=true:=beq_iff_eq.2 hk;have k33:(f.kind==33)=false:=beq_eq_false_iff_ne.2 (by omega);have HM:=qb hm;have hin:=qu hm;have HJ:Hid (I64 (i+1)):=qb (by have:=HLEN.out;unfold I64;omega);obtain⟨vo,ss,hx⟩:=h;obtain⟨g,c,s,rest,rfl,rfl,hgB,hgl,hgr,hgc,hcell,hfz⟩:=hx.top;have hfr:=hx.frs;rw[Frs]at hfr;obtain⟨s1,rest1,xs,he,h1,h2,h3,h4,h5⟩:=hfr;injection he with he1 he2
 subst he1 he2;obtain⟨As,cs,rfl⟩:=qt h1;obtain⟨n0,Al,kl,cl,hbx,hc2,hf2⟩:=hx.cells;obtain⟨N,hN⟩:=qc G.length;rw[←hN]at hx hc2 hcell hgc;have hNb:N≤1049600:=by rw[hN];have:=qbA G;rw[cnt]at hc;omega
 have e0:=hcell 0 _ rfl;have e1:=hcell 1 _ rfl;have e2:=hcell 2 _ rfl;have e3:=hcell 3 _ rfl;have e4:=hcell 4 _ rfl;rw[Nat.add_zero]at e0;have x3:IntKind.i64.wrap ((N:Int)+1-1)=N:=by rw[IntWalk.i64_in _ (by omega)];omega
 have x4:IntKind.i64.wrap (N:Int)=N:=IntWalk.i64_in _ (by omega);have x6:(0:Int)≤(N:Int):=by omega
 have x7:(N:Int)<(N:Int)+1:=by omega
 have hMc:(N:Int)≤c:=by omega
 have hrz:rb<w.heap.size:=hbx.lt;obtain⟨L,hL⟩:=qc w.heap.size;obtain⟨W1,hW1⟩:=qc ((w.alloc (.cells #[.int .i64 f.kind,.int .i64 f.at_,.int .i64 f.num,.string ⟨f.name.toArray⟩,.slice As f.kids.length cs] qi)).drew);have hb1:Below w.heap.size w W1:=by rw[hW1];exact(qd.alloc qe _).drew
 have HXn:Hid (Box W1 L qi #[.int .i64 f.kind,.int .i64 f.at_,.int .i64 f.num,.string ⟨f.name.toArray⟩,.slice As f.kids.length cs]):=qb (by rw[hW1];exact(Box.new _ _ _ _ hL).drew);have HG:Hid (Gx l v w0 rb A w i (f::G) z (.slice (some ⟨g,0,none⟩) (N+1) c) (.slice As f.kids.length cs::rest) W1):=qb ⟨hx.on_ hb1,hx.keepb hb1,hb1.size⟩;have hnl:¬L=rb:=by omega
 have hln:¬rb=L:=by omega
 have HN:=qb hN;have HW1:=qb hW1;have HL:=qb hL;have HD:=qb h3;clear hL hW1 hb1 hx hfz hcell hc hbx hf2 hN h1 h2 h3 h4 h5 hgB hk hm hin;go_enter Tryz.func62,Tryz.ntmps62
 go_wp2_with fail;go_region_held3 (fun w'=>w'.cell? ⟨rb,2,none⟩=some (.slice (some ⟨g,0,none⟩) (N+1) c)∧w'.cell? ⟨g,N*5,none⟩=some (.int .i64 f.kind)∧w'.cell? ⟨g,N*5+1,none⟩=some (.int .i64 f.at_)∧w'.cell? ⟨g,N*5+2,none⟩=some (.int .i64 f.num)∧w'.cell? ⟨g,N*5+3,none⟩=some (.string ⟨f.name.toArray⟩)∧w'.cell? ⟨g,N*5+4,none⟩=some (.slice As f.kids.length cs)) (first|go_keep) (first|fail)
 clear e0 e1 e2 e3 e4 hc2;rw[←HW1.out,←HL.out];obtain⟨⟨n0,n1,n2,n3,n4⟩,q0,q1,q2,q3,q4⟩:=c5 HXn.out;go_wp2_with fail;refine(qac [125] HG.out.rs HM.out).mono ?_;rintro e w2 ⟨rfl,hm⟩;replace HXn:=qb (hm.other HXn.out hnl);replace HG:=qb (HG.out.moved hm HJ.out);clear hm n0 n1 n2 n3 n4 q0 q1 q2 q3 q4;obtain⟨_,_,_,_,hbx,hc2,hf2⟩:=HG.out.rd.cells;have f2:=hf2 2;clear hbx hf2;obtain⟨⟨n0,n1,n2,n3,n4⟩,q0,q1,q2,q3,q4⟩:=c5 HXn.out;go_wp2_with fail
 go_still_tail 14,(by kernel_rfl)
 change wpList _ _ _ _ _ w2.drew;have HGD:Hid (Gx l v w0 rb A w (i+1) (f::G) z (.slice (some ⟨g,0,none⟩) (N+1) c) (.slice As f.kids.length cs::rest) w2.drew):=qb (HG.out.on qd.drew);have HPOP:=qb (HGD.out.rd.pop HN.out);have hc2d:w2.drew.cell? ⟨rb,2,none⟩=_:=hc2;have f2d:w2.drew.frozen? ⟨rb,2,none⟩=_:=f2;have n0d:w2.drew.cell? ⟨L,0,none⟩=_:=n0;have n1d:w2.drew.cell? ⟨L,1,none⟩=_:=n1;have n2d:w2.drew.cell? ⟨L,2,none⟩=_:=n2;have n3d:w2.drew.cell? ⟨L,3,none⟩=_:=n3;have n4d:w2.drew.cell? ⟨L,4,none⟩=_:=n4;go_wp2_with fail;refine(qbB f (.slice As f.kids.length cs) HPOP.out.1 (by have:=HC.out;rw[cnt]at this;omega) HD.out HPOP.out.2.1).mono ?_;rintro e w9 ⟨rfl,hp1,hp2,hp3⟩;have HE:Hid (qw l v w0 rb A w (put (i+1) f G z) (.returned (.bool true)) w9):=qb ⟨rfl,hp1,HGD.out.keep.trans (HPOP.out.2.2.2.trans hp2),Nat.le_trans HGD.out.sz (by have h1:=hp3;rw[World.size_setCell]at h1;exact h1)⟩;clear hp1 hp2 hp3 hc2 f2 hc2d f2d;go_wp2_with fail;try go_ret
 rw[HP.out];exact HE.out
theorem qko(f:NT)(h:Rd l v w0 rb A i (f::G) z w)(hc:cnt (f::G)≤1049400)(hk:f.kind=33)(hl:f.kids.length=2)(hw:pm.isW l i qcL=true):
   Calls Tryz.prog 62 #[.pointer (some ⟨rb,0,none⟩)] w (qw l v w0 rb A w (qcb l (i+1) (f::G) z)):=by
 obtain⟨P,hP⟩:=qc (qw l v w0 rb A w (qcb l (i+1) (f::G) z):Ending→World→Prop);rw[←hP];have HP:=qb hP;clear hP;have HLEN:=qb h.env.src.len;have HC:=qb hc;have HI0:=qb h.num;have k30:(f.kind==30)=false:=beq_eq_false_iff_ne.2 (by omega);have k33:(f.kind==33)=true:=beq_iff_eq.2 hk;have kl:((f.kids.length:Int)==2)=true:=beq_iff_eq.2 (by omega);have HM:=qb hw;have hin:=qQ hw;have HJ:Hid (I64 (i+1)):=qb (by have:=HLEN.out;unfold I64;omega);obtain⟨vo,ss,hx⟩:=h;obtain⟨g,c,s,rest,rfl,rfl,hgB,hgl,hgr,hgc,hcell,hfz⟩:=hx.top;have hfr:=hx.frs;rw[Frs]at hfr;obtain⟨s1,rest1,xs,he,h1,h2,h3,h4,h5⟩:=hfr;injection he with he1 he2
 subst he1 he2;obtain⟨As,cs,rfl⟩:=qt h1;obtain⟨n0,Al,kl,cl,hbx,hc2,hf2⟩:=hx.cells;obtain⟨N,hN⟩:=qc G.length;rw[←hN]at hx hc2 hcell hgc;have hNb:N≤1049600:=by rw[hN];have:=qbA G;rw[cnt]at hc;omega
 have e0:=hcell 0 _ rfl;have e1:=hcell 1 _ rfl;have e2:=hcell 2 _ rfl;have e3:=hcell 3 _ rfl;have e4:=hcell 4 _ rfl;rw[Nat.add_zero]at e0;have x3:IntKind.i64.wrap ((N:Int)+1-1)=N:=by rw[IntWalk.i64_in _ (by omega)];omega
 have x4:IntKind.i64.wrap (N:Int)=N:=IntWalk.i64_in _ (by omega);have x6:(0:Int)≤(N:Int):=by omega
 have x7:(N:Int)<(N:Int)+1:=by omega
 have hMc:(N:Int)≤c:=by omega
 have hrz:rb<w.heap.size:=hbx.lt;obtain⟨L,hL⟩:=qc w.heap.size;obtain⟨W1,hW1⟩:=qc ((w.alloc (.cells #[.int .i64 f.kind,.int .i64 f.at_,.int .i64 f.num,.string ⟨f.name.toArray⟩,.slice As f.kids.length cs] qi)).drew);have hb1:Below w.heap.size w W1:=by rw[hW1];exact(qd.alloc qe _).drew
 have HXn:Hid (Box W1 L qi #[.int .i64 f.kind,.int .i64 f.at_,.int .i64 f.num,.string ⟨f.name.toArray⟩,.slice As f.kids.length cs]):=qb (by rw[hW1];exact(Box.new _ _ _ _ hL).drew);have HG:Hid (Gx l v w0 rb A w i (f::G) z (.slice (some ⟨g,0,none⟩) (N+1) c) (.slice As f.kids.length cs::rest) W1):=qb ⟨hx.on_ hb1,hx.keepb hb1,hb1.size⟩;have hnl:¬L=rb:=by omega
 have hln:¬rb=L:=by omega
 have HN:=qb hN;have HW1:=qb hW1;have HL:=qb hL;have HD:=qb h3;clear hL hW1 hb1 hx hfz hcell hc hbx hf2 hN h1 h2 h3 h4 h5 hgB hk hl hw hin;go_enter Tryz.func62,Tryz.ntmps62
 go_wp2_with fail;go_region_held3 (fun w'=>w'.cell? ⟨rb,2,none⟩=some (.slice (some ⟨g,0,none⟩) (N+1) c)∧w'.cell? ⟨g,N*5,none⟩=some (.int .i64 f.kind)∧w'.cell? ⟨g,N*5+1,none⟩=some (.int .i64 f.at_)∧w'.cell? ⟨g,N*5+2,none⟩=some (.int .i64 f.num)∧w'.cell? ⟨g,N*5+3,none⟩=some (.string ⟨f.name.toArray⟩)∧w'.cell? ⟨g,N*5+4,none⟩=some (.slice As f.kids.length cs)) (first|go_keep) (first|fail)
 clear e0 e1 e2 e3 e4 hc2;rw[←HW1.out,←HL.out];obtain⟨⟨n0,n1,n2,n3,n4⟩,q0,q1,q2,q3,q4⟩:=c5 HXn.out;go_wp2_with fail;refine(qal qcL HG.out.rs HM.out).mono ?_;rintro e w2 ⟨rfl,hm⟩;replace HXn:=qb (hm.other HXn.out hnl);replace HG:=qb (HG.out.moved hm HJ.out);clear hm n0 n1 n2 n3 n4 q0 q1 q2 q3 q4;go_wp2_with fail;refine(qkL HG.out.rdd (Nat.le_trans HC.out (by decide))).mono ?_;intro e w9 hp;obtain⟨bo,rfl,hp2⟩:=hp.form;have HE:=qb (hp2.of HG.out.keep HG.out.sz);clear hp hp2;go_wp2_with fail;try go_ret
 rw[HP.out];exact HE.out
theorem qni(f:NT)(h:Rd l v w0 rb A i (f::G) z w)(hc:cnt (f::G)≤1049400)(hk:f.kind=33)(hl:f.kids.length=2)(hw:pm.isW l i qcL=false):
   Calls Tryz.prog 62 #[.pointer (some ⟨rb,0,none⟩)] w (qw l v w0 rb A w (put i f G z)):=by
 obtain⟨P,hP⟩:=qc (qw l v w0 rb A w (put i f G z):Ending→World→Prop);rw[←hP];have HP:=qb hP;clear hP;have HLEN:=qb h.env.src.len;have HC:=qb hc;have HI0:=qb h.num;have k30:(f.kind==30)=false:=beq_eq_false_iff_ne.2 (by omega);have k33:(f.kind==33)=true:=beq_iff_eq.2 hk;have kl:((f.kids.length:Int)==2)=true:=beq_iff_eq.2 (by omega);have HM:=qb hw;obtain⟨vo,ss,hx⟩:=h;obtain⟨g,c,s,rest,rfl,rfl,hgB,hgl,hgr,hgc,hcell,hfz⟩:=hx.top;have hfr:=hx.frs;rw[Frs]at hfr;obtain⟨s1,rest1,xs,he,h1,h2,h3,h4,h5⟩:=hfr;injection he with he1 he2
 subst he1 he2;obtain⟨As,cs,rfl⟩:=qt h1;obtain⟨n0,Al,kl,cl,hbx,hc2,hf2⟩:=hx.cells;obtain⟨N,hN⟩:=qc G.length;rw[←hN]at hx hc2 hcell hgc;have hNb:N≤1049600:=by rw[hN];have:=qbA G;rw[cnt]at hc;omega
 have e0:=hcell 0 _ rfl;have e1:=hcell 1 _ rfl;have e2:=hcell 2 _ rfl;have e3:=hcell 3 _ rfl;have e4:=hcell 4 _ rfl;rw[Nat.add_zero]at e0;have x3:IntKind.i64.wrap ((N:Int)+1-1)=N:=by rw[IntWalk.i64_in _ (by omega)];omega
 have x4:IntKind.i64.wrap (N:Int)=N:=IntWalk.i64_in _ (by omega);have x6:(0:Int)≤(N:Int):=by omega
 have x7:(N:Int)<(N:Int)+1:=by omega
 have hMc:(N:Int)≤c:=by omega
 have hrz:rb<w.heap.size:=hbx.lt;obtain⟨L,hL⟩:=qc w.heap.size;obtain⟨W1,hW1⟩:=qc ((w.alloc (.cells #[.int .i64 f.kind,.int .i64 f.at_,.int .i64 f.num,.string ⟨f.name.toArray⟩,.slice As f.kids.length cs] qi)).drew);have hb1:Below w.heap.size w W1:=by rw[hW1];exact(qd.alloc qe _).drew
 have HXn:Hid (Box W1 L qi #[.int .i64 f.kind,.int .i64 f.at_,.int .i64 f.num,.string ⟨f.name.toArray⟩,.slice As f.kids.length cs]):=qb (by rw[hW1];exact(Box.new _ _ _ _ hL).drew);have HG:Hid (Gx l v w0 rb A w i (f::G) z (.slice (some ⟨g,0,none⟩) (N+1) c) (.slice As f.kids.length cs::rest) W1):=qb ⟨hx.on_ hb1,hx.keepb hb1,hb1.size⟩;have hnl:¬L=rb:=by omega
 have hln:¬rb=L:=by omega
 have HN:=qb hN;have HW1:=qb hW1;have HL:=qb hL;have HD:=qb h3;clear hL hW1 hb1 hx hfz hcell hc hbx hf2 hN h1 h2 h3 h4 h5 hgB hk hl hw;go_enter Tryz.func62,Tryz.ntmps62
 go_wp2_with fail;go_region_held3 (fun w'=>w'.cell? ⟨rb,2,none⟩=some (.slice (some ⟨g,0,none⟩) (N+1) c)∧w'.cell? ⟨g,N*5,none⟩=some (.int .i64 f.kind)∧w'.cell? ⟨g,N*5+1,none⟩=some (.int .i64 f.at_)∧w'.cell? ⟨g,N*5+2,none⟩=some (.int .i64 f.num)∧w'.cell? ⟨g,N*5+3,none⟩=some (.string ⟨f.name.toArray⟩)∧w'.cell? ⟨g,N*5+4,none⟩=some (.slice As f.kids.length cs)) (first|go_keep) (first|fail)
 clear e0 e1 e2 e3 e4 hc2;rw[←HW1.out,←HL.out];obtain⟨⟨n0,n1,n2,n3,n4⟩,q0,q1,q2,q3,q4⟩:=c5 HXn.out;go_wp2_with fail;refine(qay qcL HG.out.rs HM.out).mono ?_;rintro e w2 ⟨rfl,hb⟩;replace HG:=qb (HG.out.on hb);replace HXn:=qb (HXn.out.on hb);clear hb n0 n1 n2 n3 n4 q0 q1 q2 q3 q4;obtain⟨_,_,_,_,hbx,hc2,hf2⟩:=HG.out.rd.cells;have f2:=hf2 2;clear hbx hf2;obtain⟨⟨n0,n1,n2,n3,n4⟩,q0,q1,q2,q3,q4⟩:=c5 HXn.out;go_wp2_with fail
 go_still_tail 14,(by kernel_rfl)
 change wpList _ _ _ _ _ w2.drew;have HGD:Hid (Gx l v w0 rb A w (i) (f::G) z (.slice (some ⟨g,0,none⟩) (N+1) c) (.slice As f.kids.length cs::rest) w2.drew):=qb (HG.out.on qd.drew);have HPOP:=qb (HGD.out.rd.pop HN.out);have hc2d:w2.drew.cell? ⟨rb,2,none⟩=_:=hc2;have f2d:w2.drew.frozen? ⟨rb,2,none⟩=_:=f2;have n0d:w2.drew.cell? ⟨L,0,none⟩=_:=n0;have n1d:w2.drew.cell? ⟨L,1,none⟩=_:=n1;have n2d:w2.drew.cell? ⟨L,2,none⟩=_:=n2;have n3d:w2.drew.cell? ⟨L,3,none⟩=_:=n3;have n4d:w2.drew.cell? ⟨L,4,none⟩=_:=n4;go_wp2_with fail;refine(qbB f (.slice As f.kids.length cs) HPOP.out.1 (by have:=HC.out;rw[cnt]at this;omega) HD.out HPOP.out.2.1).mono ?_;rintro e w9 ⟨rfl,hp1,hp2,hp3⟩;have HE:Hid (qw l v w0 rb A w (put (i) f G z) (.returned (.bool true)) w9):=qb ⟨rfl,hp1,HGD.out.keep.trans (HPOP.out.2.2.2.trans hp2),Nat.le_trans HGD.out.sz (by have h1:=hp3;rw[World.size_setCell]at h1;exact h1)⟩;clear hp1 hp2 hp3 hc2 f2 hc2d f2d;go_wp2_with fail;try go_ret
 rw[HP.out];exact HE.out
theorem qlV(f:NT)(h:Rd l v w0 rb A i (f::G) z w)(hc:cnt (f::G)≤1049400)(hk:f.kind=33)(hl:¬f.kids.length=2):
   Calls Tryz.prog 62 #[.pointer (some ⟨rb,0,none⟩)] w (qw l v w0 rb A w (put i f G z)):=by
 obtain⟨P,hP⟩:=qc (qw l v w0 rb A w (put i f G z):Ending→World→Prop);rw[←hP];have HP:=qb hP;clear hP;have HLEN:=qb h.env.src.len;have HC:=qb hc;have HI0:=qb h.num;have k30:(f.kind==30)=false:=beq_eq_false_iff_ne.2 (by omega);have k33:(f.kind==33)=true:=beq_iff_eq.2 hk;have kl:((f.kids.length:Int)==2)=false:=beq_eq_false_iff_ne.2 (by omega);obtain⟨vo,ss,hx⟩:=h;obtain⟨g,c,s,rest,rfl,rfl,hgB,hgl,hgr,hgc,hcell,hfz⟩:=hx.top;have hfr:=hx.frs;rw[Frs]at hfr;obtain⟨s1,rest1,xs,he,h1,h2,h3,h4,h5⟩:=hfr;injection he with he1 he2
 subst he1 he2;obtain⟨As,cs,rfl⟩:=qt h1;obtain⟨n0,Al,kl,cl,hbx,hc2,hf2⟩:=hx.cells;obtain⟨N,hN⟩:=qc G.length;rw[←hN]at hx hc2 hcell hgc;have hNb:N≤1049600:=by rw[hN];have:=qbA G;rw[cnt]at hc;omega
 have e0:=hcell 0 _ rfl;have e1:=hcell 1 _ rfl;have e2:=hcell 2 _ rfl;have e3:=hcell 3 _ rfl;have e4:=hcell 4 _ rfl;rw[Nat.add_zero]at e0;have x3:IntKind.i64.wrap ((N:Int)+1-1)=N:=by rw[IntWalk.i64_in _ (by omega)];omega
 have x4:IntKind.i64.wrap (N:Int)=N:=IntWalk.i64_in _ (by omega);have x6:(0:Int)≤(N:Int):=by omega
 have x7:(N:Int)<(N:Int)+1:=by omega
 have hMc:(N:Int)≤c:=by omega
 have hrz:rb<w.heap.size:=hbx.lt;obtain⟨L,hL⟩:=qc w.heap.size;obtain⟨W1,hW1⟩:=qc ((w.alloc (.cells #[.int .i64 f.kind,.int .i64 f.at_,.int .i64 f.num,.string ⟨f.name.toArray⟩,.slice As f.kids.length cs] qi)).drew);have hb1:Below w.heap.size w W1:=by rw[hW1];exact(qd.alloc qe _).drew
 have HXn:Hid (Box W1 L qi #[.int .i64 f.kind,.int .i64 f.at_,.int .i64 f.num,.string ⟨f.name.toArray⟩,.slice As f.kids.length cs]):=qb (by rw[hW1];exact(Box.new _ _ _ _ hL).drew);have HG:Hid (Gx l v w0 rb A w i (f::G) z (.slice (some ⟨g,0,none⟩) (N+1) c) (.slice As f.kids.length cs::rest) W1):=qb ⟨hx.on_ hb1,hx.keepb hb1,hb1.size⟩;have hnl:¬L=rb:=by omega
 have hln:¬rb=L:=by omega
 have HN:=qb hN;have HW1:=qb hW1;have HL:=qb hL;have HD:=qb h3;clear hL hW1 hb1 hx hfz hcell hc hbx hf2 hN h1 h2 h3 h4 h5 hgB hk hl;go_enter Tryz.func62,Tryz.ntmps62
 go_wp2_with fail;go_region_held3 (fun w'=>w'.cell? ⟨rb,2,none⟩=some (.slice (some ⟨g,0,none⟩) (N+1) c)∧w'.cell? ⟨g,N*5,none⟩=some (.int .i64 f.kind)∧w'.cell? ⟨g,N*5+1,none⟩=some (.int .i64 f.at_)∧w'.cell? ⟨g,N*5+2,none⟩=some (.int .i64 f.num)∧w'.cell? ⟨g,N*5+3,none⟩=some (.string ⟨f.name.toArray⟩)∧w'.cell? ⟨g,N*5+4,none⟩=some (.slice As f.kids.length cs)) (first|go_keep) (first|fail)
 clear e0 e1 e2 e3 e4 hc2;rw[←HW1.out,←HL.out];obtain⟨⟨n0,n1,n2,n3,n4⟩,q0,q1,q2,q3,q4⟩:=c5 HXn.out;clear n0 n1 n2 n3 n4 q0 q1 q2 q3 q4;obtain⟨_,_,_,_,hbx,hc2,hf2⟩:=HG.out.rd.cells;have f2:=hf2 2;clear hbx hf2;obtain⟨⟨n0,n1,n2,n3,n4⟩,q0,q1,q2,q3,q4⟩:=c5 HXn.out;go_wp2_with fail
 go_still_tail 14,(by kernel_rfl)
 change wpList _ _ _ _ _ W1.drew;have HGD:Hid (Gx l v w0 rb A w (i) (f::G) z (.slice (some ⟨g,0,none⟩) (N+1) c) (.slice As f.kids.length cs::rest) W1.drew):=qb (HG.out.on qd.drew);have HPOP:=qb (HGD.out.rd.pop HN.out);have hc2d:W1.drew.cell? ⟨rb,2,none⟩=_:=hc2;have f2d:W1.drew.frozen? ⟨rb,2,none⟩=_:=f2;have n0d:W1.drew.cell? ⟨L,0,none⟩=_:=n0;have n1d:W1.drew.cell? ⟨L,1,none⟩=_:=n1;have n2d:W1.drew.cell? ⟨L,2,none⟩=_:=n2;have n3d:W1.drew.cell? ⟨L,3,none⟩=_:=n3;have n4d:W1.drew.cell? ⟨L,4,none⟩=_:=n4;go_wp2_with fail;refine(qbB f (.slice As f.kids.length cs) HPOP.out.1 (by have:=HC.out;rw[cnt]at this;omega) HD.out HPOP.out.2.1).mono ?_;rintro e w9 ⟨rfl,hp1,hp2,hp3⟩;have HE:Hid (qw l v w0 rb A w (put (i) f G z) (.returned (.bool true)) w9):=qb ⟨rfl,hp1,HGD.out.keep.trans (HPOP.out.2.2.2.trans hp2),Nat.le_trans HGD.out.sz (by have h1:=hp3;rw[World.size_setCell]at h1;exact h1)⟩;clear hp1 hp2 hp3 hc2 f2 hc2d f2d;go_wp2_with fail;try go_ret
 rw[HP.out];exact HE.out
theorem qkp(f:NT)(h:Rd l v w0 rb A i (f::G) z w)(hc:cnt (f::G)≤1049400)(hk:¬f.kind=30)(hk2:¬f.kind=33):
   Calls Tryz.prog 62 #[.pointer (some ⟨rb,0,none⟩)] w (qw l v w0 rb A w (put i f G z)):=by
 obtain⟨P,hP⟩:=qc (qw l v w0 rb A w (put i f G z):Ending→World→Prop);rw[←hP];have HP:=qb hP;clear hP;have HLEN:=qb h.env.src.len;have HC:=qb hc;have HI0:=qb h.num;have k30:(f.kind==30)=false:=beq_eq_false_iff_ne.2 (by omega);have k33:(f.kind==33)=false:=beq_eq_false_iff_ne.2 (by omega);obtain⟨vo,ss,hx⟩:=h;obtain⟨g,c,s,rest,rfl,rfl,hgB,hgl,hgr,hgc,hcell,hfz⟩:=hx.top;have hfr:=hx.frs;rw[Frs]at hfr;obtain⟨s1,rest1,xs,he,h1,h2,h3,h4,h5⟩:=hfr;injection he with he1 he2
 subst he1 he2;obtain⟨As,cs,rfl⟩:=qt h1;obtain⟨n0,Al,kl,cl,hbx,hc2,hf2⟩:=hx.cells;obtain⟨N,hN⟩:=qc G.length;rw[←hN]at hx hc2 hcell hgc;have hNb:N≤1049600:=by rw[hN];have:=qbA G;rw[cnt]at hc;omega
 have e0:=hcell 0 _ rfl;have e1:=hcell 1 _ rfl;have e2:=hcell 2 _ rfl;have e3:=hcell 3 _ rfl;have e4:=hcell 4 _ rfl;rw[Nat.add_zero]at e0;have x3:IntKind.i64.wrap ((N:Int)+1-1)=N:=by rw[IntWalk.i64_in _ (by omega)];omega
 have x4:IntKind.i64.wrap (N:Int)=N:=IntWalk.i64_in _ (by omega);have x6:(0:Int)≤(N:Int):=by omega
 have x7:(N:Int)<(N:Int)+1:=by omega
 have hMc:(N:Int)≤c:=by omega
 have hrz:rb<w.heap.size:=hbx.lt;obtain⟨L,hL⟩:=qc w.heap.size;obtain⟨W1,hW1⟩:=qc ((w.alloc (.cells #[.int .i64 f.kind,.int .i64 f.at_,.int .i64 f.num,.string ⟨f.name.toArray⟩,.slice As f.kids.length cs] qi)).drew);have hb1:Below w.heap.size w W1:=by rw[hW1];exact(qd.alloc qe _).drew
 have HXn:Hid (Box W1 L qi #[.int .i64 f.kind,.int .i64 f.at_,.int .i64 f.num,.string ⟨f.name.toArray⟩,.slice As f.kids.length cs]):=qb (by rw[hW1];exact(Box.new _ _ _ _ hL).drew);have HG:Hid (Gx l v w0 rb A w i (f::G) z (.slice (some ⟨g,0,none⟩) (N+1) c) (.slice As f.kids.length cs::rest) W1):=qb ⟨hx.on_ hb1,hx.keepb hb1,hb1.size⟩;have hnl:¬L=rb:=by omega
 have hln:¬rb=L:=by omega
 have HN:=qb hN;have HW1:=qb hW1;have HL:=qb hL;have HD:=qb h3;clear hL hW1 hb1 hx hfz hcell hc hbx hf2 hN h1 h2 h3 h4 h5 hgB hk hk2;go_enter Tryz.func62,Tryz.ntmps62
 go_wp2_with fail;go_region_held3 (fun w'=>w'.cell? ⟨rb,2,none⟩=some (.slice (some ⟨g,0,none⟩) (N+1) c)∧w'.cell? ⟨g,N*5,none⟩=some (.int .i64 f.kind)∧w'.cell? ⟨g,N*5+1,none⟩=some (.int .i64 f.at_)∧w'.cell? ⟨g,N*5+2,none⟩=some (.int .i64 f.num)∧w'.cell? ⟨g,N*5+3,none⟩=some (.string ⟨f.name.toArray⟩)∧w'.cell? ⟨g,N*5+4,none⟩=some (.slice As f.kids.length cs)) (first|go_keep) (first|fail)
 clear e0 e1 e2 e3 e4 hc2;rw[←HW1.out,←HL.out];obtain⟨⟨n0,n1,n2,n3,n4⟩,q0,q1,q2,q3,q4⟩:=c5 HXn.out;clear n0 n1 n2 n3 n4 q0 q1 q2 q3 q4;obtain⟨_,_,_,_,hbx,hc2,hf2⟩:=HG.out.rd.cells;have f2:=hf2 2;clear hbx hf2;obtain⟨⟨n0,n1,n2,n3,n4⟩,q0,q1,q2,q3,q4⟩:=c5 HXn.out;go_wp2_with fail
 go_still_tail 14,(by kernel_rfl)
 change wpList _ _ _ _ _ W1.drew;have HGD:Hid (Gx l v w0 rb A w (i) (f::G) z (.slice (some ⟨g,0,none⟩) (N+1) c) (.slice As f.kids.length cs::rest) W1.drew):=qb (HG.out.on qd.drew);have HPOP:=qb (HGD.out.rd.pop HN.out);have hc2d:W1.drew.cell? ⟨rb,2,none⟩=_:=hc2;have f2d:W1.drew.frozen? ⟨rb,2,none⟩=_:=f2;have n0d:W1.drew.cell? ⟨L,0,none⟩=_:=n0;have n1d:W1.drew.cell? ⟨L,1,none⟩=_:=n1;have n2d:W1.drew.cell? ⟨L,2,none⟩=_:=n2;have n3d:W1.drew.cell? ⟨L,3,none⟩=_:=n3;have n4d:W1.drew.cell? ⟨L,4,none⟩=_:=n4;go_wp2_with fail;refine(qbB f (.slice As f.kids.length cs) HPOP.out.1 (by have:=HC.out;rw[cnt]at this;omega) HD.out HPOP.out.2.1).mono ?_;rintro e w9 ⟨rfl,hp1,hp2,hp3⟩;have HE:Hid (qw l v w0 rb A w (put (i) f G z) (.returned (.bool true)) w9):=qb ⟨rfl,hp1,HGD.out.keep.trans (HPOP.out.2.2.2.trans hp2),Nat.le_trans HGD.out.sz (by have h1:=hp3;rw[World.size_setCell]at h1;exact h1)⟩;clear hp1 hp2 hp3 hc2 f2 hc2d f2d;go_wp2_with fail;try go_ret
 rw[HP.out];exact HE.out
theorem qfg(f:NT)(h:Rd l v w0 rb A i (f::G) z w)(hc:cnt (f::G)≤1049400):
   Calls Tryz.prog 62 #[.pointer (some ⟨rb,0,none⟩)] w (qw l v w0 rb A w (qD l ⟨i,f::G,z⟩)):=by
 rw[qbl];by_cases h1:f.kind=30
 · cases h2:isM l i [125]with
   |false=>rw[if_pos ⟨h1,rfl⟩];exact qiR f h hc h1 h2
   |true=>rw[if_neg (by simp),if_pos h1];exact qkq f h hc h1 h2
 · rw[if_neg (fun q=>h1 q.1),if_neg h1];by_cases h3:f.kind=33
   · by_cases h4:f.kids.length=2
     · cases h5:pm.isW l i qcL with
       |true=>rw[if_pos ⟨h3,h4,rfl⟩];exact qko f h hc h3 h4 h5
       |false=>rw[if_neg (by simp)];exact qni f h hc h3 h4 h5
     · rw[if_neg (fun q=>h4 q.2.1)];exact qlV f h hc h3 h4
   · rw[if_neg (fun q=>h3 q.1)];exact qkp f h hc h1 h3
end Go.Proofs.YtdndfifkfjoffaaGreatDoor.pm.sx

/- The package's reader of statements: what is begun. (and what it stands on) -/
import Derived.Test.YtdndfifkfjoffaaGreatDoorZam
import Derived.Test.YtdndfifkfjoffaaGreatDoorZav
import Derived.Test.YtdndfifkfjoffaaGreatDoorZaq
import Derived.Deep.RegionLaw
import Derived.Deep.AppendLies
import Derived.Test.YtdndfifkfjoffaaGreatDoorZaa
set_option maxRecDepth 100000
set_option maxHeartbeats 4000000
namespace Go.Proofs.YtdndfifkfjoffaaGreatDoor.pm.sx
open Go.RowKit wd lx nt ne pm mem
open vt (I64 qft qt qv qZ qee Typ qc6)
variable{l:List Tk}{v:Value}{w0:World}{rb:Nat}{A A':Nat→Prop}{i j:Int}{G:List NT}{z:Option NT}{w:World}
theorem qaE{X Y:World}{Q:Nat→Prop}{ns:List NT}{s:Value}(hk:nt.ql Q X ns s)(m:Mv v rb i j X Y)(hQ:∀b,Q b→b≠rb):nt.ql Q Y ns s:=
 hk.carry fun b o u q hc=>⟨q,(World.cell?_of_block (w:=X) (w':=Y) (a:=⟨b,o,none⟩) (m.grow.block b (World.block_lt_of_cell? _ _ hc) fun e=>by injection e with e;exact hQ b q e)).trans hc⟩
theorem qi2(h:rb<w.heap.size):∀b,w.heap.size≤b→b≠rb:=fun b q e=>by omega
def Hn(w0:World)(A A':Nat→Prop)(w:World)(b:Nat):Prop:=w0.heap.size≤b∧¬Dn A A' w b
theorem Fx.hn{X:World}(h:Fx l v w0 rb A A' w i G z X):∀b,Hn w0 A A' w b→b≠rb:=fun b q e=>q.2 (by rw[e];exact h.dn)
theorem Fx.over{X:World}(h:Fx l v w0 rb A A' w i G z X){vo:Value}{ss:List Value}(hx:RdX l v w0 rb (Up A w X) i G z vo ss X){ns:List NT}{s:Value}(hk:nt.ql (Hn w0 A A' w) X ns s):nt.ql (KP w0 rb A' vo ss) X ns s:=
 hk.carry fun b o u q hc=>by
   have hlt:=World.block_lt_of_cell? _ _ hc
   have hb:Up A w X b∧¬A' b:=by
     by_cases h1:b<w.heap.size
     · have h2:A b∧¬A' b:=Classical.byContradiction fun e=>q.2 ⟨h1,e⟩;exact⟨Or.inl h2.1,h2.2⟩
     · exact⟨Or.inr ⟨by omega,hlt⟩,fun e=>h1 (h.ap b (h.sub b e)).2⟩
   have ha:=hx.ap b hb.1;exact⟨⟨ha.1,hb.2,ha.2.2⟩,hc⟩
theorem Fx.hand{X:World}(h:Fx l v w0 rb A A' w i G z X){ns:List NT}{s:Value}(hk:nt.ql (Hn w0 A A' w) X ns s):nt.ql (Hn w0 (Up A w X) A' X) X ns s:=
 hk.carry fun b o u q hc=>⟨⟨q.1,fun e=>by
   refine q.2 ?_;by_cases h1:b<w.heap.size
   · exact⟨h1,fun e2=>e.2 ⟨Or.inl e2.1,e2.2⟩⟩
   · exact absurd ⟨Or.inr ⟨by omega,e.1⟩,fun e2=>h1 (h.ap b (h.sub b e2)).2⟩ e.2⟩,hc⟩
theorem Fx.fresh{X:World}(h:Fx l v w0 rb A A' w i G z X){ns:List NT}{s:Value}(hk:nt.ql (fun b=>w.heap.size≤b) X ns s):nt.ql (Hn w0 A A' w) X ns s:=
 hk.mono fun b q=>⟨by have:=h.rd.low.size;have:=h.lt;have:=h.rd.hB;omega,fun e=>by have:=e.1;omega⟩
theorem qh2{B:Nat}{D:Nat→Prop}{ns:List NT}{s:Value}(h:qP B D w ns s):qP B (fun b=>D b∨w.heap.size≤b) w ns s:=by
 obtain⟨vs,hv,ho,hk⟩:=h;exact⟨vs,hv.carry fun b o u q hc=>⟨⟨q.1,q.2.1,fun e=>e.elim q.2.2 fun e=>by have:=World.block_lt_of_cell? _ _ hc;have:b<w.heap.size:=this;omega⟩,hc⟩,ho,fun k e q=>q.elim (hk k e) fun q=>by have:=(ho.lt k e).2;omega⟩
theorem qi5{X:World}{D:Nat→Prop}{ns:List NT}{s:Value}(ho:qP w0.heap.size D X ns s)(hD:∀b,Dn A A' w b→D b):nt.ql (Hn w0 A A' w) X ns s:=(qlZ ho).mono fun b q=>⟨q.1,fun e=>q.2 (hD b e)⟩
theorem qlI(n:NT)(s:Value)(h:Rd l v w0 rb A i G z w)(hA:∀b,A' b→A b)(hk:nt.ql (Hn w0 A A' w) w n.kids s)(hm:isM l i [59]=false):
   Calls Tryz.prog 101 #[.pointer (some ⟨rb,0,none⟩),.agg #[.int .i64 n.kind,.int .i64 n.at_,.int .i64 n.num,.string ⟨n.name.toArray⟩,s]] w (qw l v w0 rb A' w (.no i)):=by
 obtain⟨P,hP⟩:=qc (qw l v w0 rb A' w (.no i):Ending→World→Prop);rw[←hP];have HP:=qb hP;clear hP;have HLEN:=qb h.env.src.len;obtain⟨An,cn,rfl,_⟩:=hk.form;have HM:=qb hm;have HF:=qb (Fx.start h hA);obtain⟨On,hO⟩:=qc w.heap.size;obtain⟨Un,hU⟩:=qc (w.alloc (.cells #[.int .i64 n.kind,.int .i64 n.at_,.int .i64 n.num,.string ⟨n.name.toArray⟩,.slice An n.kids.length cn] qi));have hb:Below w.heap.size w Un:=by rw[hU];exact qd.alloc qe _
 have HLn:Hid (w.heap.size≤On):=qb (by rw[hO];exact HF.out.sz);have hNn:¬On=rb:=fun e=>by have h1:=HLn.out;have h2:=HF.out.lt;omega
 have hMn:¬rb=On:=fun e=>hNn e.symm;have HNn:=qb hNn;replace HF:=qb (HF.out.on hb);have HXn:Hid (Box Un On qi #[.int .i64 n.kind,.int .i64 n.at_,.int .i64 n.num,.string ⟨n.name.toArray⟩,.slice An n.kids.length cn]):=qb (by rw[hU];exact Box.new _ _ _ _ hO);have HUn:=qb hU;have HOn:=qb hO;clear hU hO hb;clear h hk hm hA;go_enter Tryz.func101,Tryz.ntmps101
 go_wp2_with (first|(rw[←HUn.out,←HOn.out]));refine(qai [59] HF.out.rs HM.out).mono ?_;rintro e w1 ⟨rfl,hb⟩;replace HF:=qb (HF.out.on hb);replace HXn:=qb (HXn.out.on hb);clear hb;have HE:=qb (HF.out.no);go_wp2_with fail;try go_ret
 rw[HP.out];exact HE.out
theorem qj8(n:NT)(s:Value)(h:Rd l v w0 rb A i G z w)(hA:∀b,A' b→A b)(hk:nt.ql (Hn w0 A A' w) w n.kids s)(hd:Hd n)(hc:cnt G≤1049600)(hm:isM l i [59]=true):
   Calls Tryz.prog 101 #[.pointer (some ⟨rb,0,none⟩),.agg #[.int .i64 n.kind,.int .i64 n.at_,.int .i64 n.num,.string ⟨n.name.toArray⟩,s]] w (qw l v w0 rb A' w (put (i+1) n G z)):=by
 obtain⟨P,hP⟩:=qc (qw l v w0 rb A' w (put (i+1) n G z):Ending→World→Prop);rw[←hP];have HP:=qb hP;clear hP;have HLEN:=qb h.env.src.len;obtain⟨An,cn,rfl,_⟩:=hk.form;have HM:=qb hm;have HDN:=qb hd;have HC:=qb hc;have hin:=qu hm;have HJ:Hid (I64 (i+1)):=qb (by have:=HLEN.out;unfold I64;omega);have HF:=qb (Fx.start h hA);have HKn:=qb (hk);have HQn:=qb (HF.out.hn);obtain⟨On,hO⟩:=qc w.heap.size;obtain⟨Un,hU⟩:=qc (w.alloc (.cells #[.int .i64 n.kind,.int .i64 n.at_,.int .i64 n.num,.string ⟨n.name.toArray⟩,.slice An n.kids.length cn] qi));have hb:Below w.heap.size w Un:=by rw[hU];exact qd.alloc qe _
 have HLn:Hid (w.heap.size≤On):=qb (by rw[hO];exact HF.out.sz);have hNn:¬On=rb:=fun e=>by have h1:=HLn.out;have h2:=HF.out.lt;omega
 have hMn:¬rb=On:=fun e=>hNn e.symm;have HNn:=qb hNn;replace HF:=qb (HF.out.on hb);replace HKn:=qb (HKn.out.below hb);have HXn:Hid (Box Un On qi #[.int .i64 n.kind,.int .i64 n.at_,.int .i64 n.num,.string ⟨n.name.toArray⟩,.slice An n.kids.length cn]):=qb (by rw[hU];exact Box.new _ _ _ _ hO);have HUn:=qb hU;have HOn:=qb hO;clear hU hO hb;clear h hk hm hd hc hin hA;go_enter Tryz.func101,Tryz.ntmps101
 go_wp2_with (first|(rw[←HUn.out,←HOn.out]));refine(qac [59] HF.out.rs HM.out).mono ?_;rintro e w1 ⟨rfl,hm⟩;replace HF:=qb (HF.out.moved hm HJ.out);replace HXn:=qb (hm.other HXn.out HNn.out);replace HKn:=qb (qaE HKn.out hm HQn.out);clear hm;obtain⟨vo,ss,hx⟩:=HF.out.rd;have HPUT:=qb (qbB n (.slice An n.kids.length cn) (hx.mono HF.out.upA) HC.out HDN.out (HF.out.over hx HKn.out));clear hx;obtain⟨⟨xn_0,xn_1,xn_2,xn_3,xn_4⟩,fn_0,fn_1,fn_2,fn_3,fn_4⟩:=c5 HXn.out;go_wp2_with fail;refine HPUT.out.mono ?_;rintro e w9 ⟨rfl,hp1,hp2,hp3⟩;have HE:Hid (qw l v w0 rb A' w (put (i+1) n G z) (.returned (.bool true)) w9):=qb (HF.out.of (o:=put (i+1) n G z) ⟨rfl,hp1,hp2,hp3⟩);clear hp1 hp2 hp3;clear xn_0 xn_1 xn_2 xn_3 xn_4 fn_0 fn_1 fn_2 fn_3 fn_4;go_wp2_with fail;try go_ret
 rw[HP.out];exact HE.out
theorem qdf(n:NT)(s:Value)(h:Rd l v w0 rb A i G z w)(hA:∀b,A' b→A b)(hk:nt.ql (Hn w0 A A' w) w n.kids s)(hd:Hd n)(hc:cnt G≤1049600):
   Calls Tryz.prog 101 #[.pointer (some ⟨rb,0,none⟩),.agg #[.int .i64 n.kind,.int .i64 n.at_,.int .i64 n.num,.string ⟨n.name.toArray⟩,s]] w (qw l v w0 rb A' w (qcV l i n G z)):=by
 unfold qcV;by_cases hm:isM l i [59]=true
 · rw[if_pos hm];exact qj8 n s h hA hk hd hc hm
 · rw[if_neg hm];exact qlI n s h hA hk (em.qo hm)
theorem Fx.five{X:World}(h:Fx l v w0 rb A A' w i G z X){O:Nat}(hO:w.heap.size≤O)(a b c d e:Value):Fx l v w0 rb A A' w i G z (nt.five X O a b c d e):=((((h.set hO a).set hO b).set hO c).set hO d).set hO e
theorem qhr(n:NT)(s:Value)(h:Rd l v w0 rb A i G z w)(hA:∀b,A' b→A b)(ho:qP w0.heap.size (Dn A A' w) w n.kids s)(hl:n.kids.length≤2)(hj:I64 j)(he:exR l i=.no j):
   Calls Tryz.prog 72 #[.pointer (some ⟨rb,0,none⟩),.agg #[.int .i64 n.kind,.int .i64 n.at_,.int .i64 n.num,.string ⟨n.name.toArray⟩,s]] w (qw l v w0 rb A' w (.no j)):=by
 obtain⟨P,hP⟩:=qc (qw l v w0 rb A' w (.no j):Ending→World→Prop);rw[←hP];have HP:=qb hP;clear hP;have HLEN:=qb h.env.src.len;obtain⟨An,cn,rfl⟩:=ho.form;have HJ:=qb hj;have HEX:=qb he;have HF:=qb (Fx.start h hA);obtain⟨On,hO⟩:=qc w.heap.size;obtain⟨Un,hU⟩:=qc (w.alloc (.cells #[.int .i64 n.kind,.int .i64 n.at_,.int .i64 n.num,.string ⟨n.name.toArray⟩,.slice An n.kids.length cn] qi));have hb:Below w.heap.size w Un:=by rw[hU];exact qd.alloc qe _
 have HLn:Hid (w.heap.size≤On):=qb (by rw[hO];exact HF.out.sz);have hNn:¬On=rb:=fun e=>by have h1:=HLn.out;have h2:=HF.out.lt;omega
 have hMn:¬rb=On:=fun e=>hNn e.symm;have HNn:=qb hNn;replace HF:=qb (HF.out.on hb);have HXn:Hid (Box Un On qi #[.int .i64 n.kind,.int .i64 n.at_,.int .i64 n.num,.string ⟨n.name.toArray⟩,.slice An n.kids.length cn]):=qb (by rw[hU];exact Box.new _ _ _ _ hO);have HUn:=qb hU;have HOn:=qb hO;clear hU hO hb;clear h ho hl he hj hA;go_enter Tryz.func72,Tryz.ntmps72
 go_wp2_with (first|(rw[←HUn.out,←HOn.out]));refine(qeo HF.out.rs HEX.out).mono ?_;rintro e w1 ⟨rfl,hm⟩;replace HF:=qb (HF.out.moved hm HJ.out);replace HXn:=qb (hm.other HXn.out HNn.out);clear hm;obtain⟨Ox,hO⟩:=qc w1.heap.size;obtain⟨Ux,hU⟩:=qc (w1.alloc (.cells #[.int .i64 0,.int .i64 0,.int .i64 0,.string ⟨#[]⟩,.slice none 0 0] qi));have hb:Below w1.heap.size w1 Ux:=by rw[hU];exact qd.alloc qe _
 have HLx:Hid (w.heap.size≤Ox):=qb (by rw[hO];exact HF.out.sz);have hNx:¬Ox=rb:=fun e=>by have h1:=HLx.out;have h2:=HF.out.lt;omega
 have hMx:¬rb=Ox:=fun e=>hNx e.symm;have HNx:=qb hNx;have hNxn:¬Ox=On:=fun e=>by have h1:=HXn.out.lt;omega
 have hNnx:¬On=Ox:=fun e=>hNxn e.symm;replace HF:=qb (HF.out.on hb);replace HXn:=qb (HXn.out.on hb);have HXx:Hid (Box Ux Ox qi #[.int .i64 0,.int .i64 0,.int .i64 0,.string ⟨#[]⟩,.slice none 0 0]):=qb (by rw[hU];exact Box.new _ _ _ _ hO);have HUx:=qb hU;have HOx:=qb hO;clear hU hO hb;have HE:=qb ((HF.out.five HLx.out (.int .i64 0) (.int .i64 0) (.int .i64 0) (.string ⟨#[]⟩) (.slice none 0 0)).no);obtain⟨⟨xn_0,xn_1,xn_2,xn_3,xn_4⟩,fn_0,fn_1,fn_2,fn_3,fn_4⟩:=c5 HXn.out;obtain⟨⟨xx_0,xx_1,xx_2,xx_3,xx_4⟩,fx_0,fx_1,fx_2,fx_3,fx_4⟩:=c5 HXx.out;go_wp2_with (first|(rw[←HUx.out,←HOx.out]));try go_ret
 rw[HP.out];exact HE.out
theorem qhs(n:NT)(s:Value)(h:Rd l v w0 rb A i G z w)(hA:∀b,A' b→A b)(ho:qP w0.heap.size (Dn A A' w) w n.kids s)(hl:n.kids.length≤2)(hj:I64 j)(hd:Hd n)(hc:cnt G≤1049600)(x:NT)(he:exR l i=.node x j):
   Calls Tryz.prog 72 #[.pointer (some ⟨rb,0,none⟩),.agg #[.int .i64 n.kind,.int .i64 n.at_,.int .i64 n.num,.string ⟨n.name.toArray⟩,s]] w (qw l v w0 rb A' w (qcV l j (add n x) G z)):=by
 obtain⟨P,hP⟩:=qc (qw l v w0 rb A' w (qcV l j (add n x) G z):Ending→World→Prop);rw[←hP];have HP:=qb hP;clear hP;have HLEN:=qb h.env.src.len;obtain⟨An,cn,rfl⟩:=ho.form;have HJ:=qb hj;have HEX:=qb he;have HDN:=qb hd;have HC:=qb hc;have HNL:=qb hl;have HOW:=qb (qh2 ho);have HF:=qb (Fx.start h hA);obtain⟨On,hO⟩:=qc w.heap.size;obtain⟨Un,hU⟩:=qc (w.alloc (.cells #[.int .i64 n.kind,.int .i64 n.at_,.int .i64 n.num,.string ⟨n.name.toArray⟩,.slice An n.kids.length cn] qi));have hb:Below w.heap.size w Un:=by rw[hU];exact qd.alloc qe _
 have HLn:Hid (w.heap.size≤On):=qb (by rw[hO];exact HF.out.sz);have hNn:¬On=rb:=fun e=>by have h1:=HLn.out;have h2:=HF.out.lt;omega
 have hMn:¬rb=On:=fun e=>hNn e.symm;have HNn:=qb hNn;replace HF:=qb (HF.out.on hb);replace HOW:=qb (HOW.out.below hb);have HXn:Hid (Box Un On qi #[.int .i64 n.kind,.int .i64 n.at_,.int .i64 n.num,.string ⟨n.name.toArray⟩,.slice An n.kids.length cn]):=qb (by rw[hU];exact Box.new _ _ _ _ hO);have HUn:=qb hU;have HOn:=qb hO;clear hU hO hb;clear h ho hl he hj hd hc hA;go_enter Tryz.func72,Tryz.ntmps72
 go_wp2_with (first|(rw[←HUn.out,←HOn.out]));refine(qdg x HF.out.rs HEX.out).mono ?_;rintro e w1 ⟨sx,rfl,hk,hd,hm⟩;obtain⟨Ax,cx,rfl,_⟩:=hk.form;have hlt:=HXn.out.lt;replace HF:=qb (HF.out.moved hm HJ.out);replace HXn:=qb (hm.other HXn.out HNn.out);replace HOW:=qb (qjF HOW.out hm (Or.inl HF.out.dn));have HDx:=qb hd;have HKx:Hid (nt.ql (fun b=>On<b∧b<w1.heap.size) w1 x.kids (.slice Ax x.kids.length cx)):=qb (hk.carry fun b o u q hc=>⟨⟨Nat.lt_of_lt_of_le hlt q,World.block_lt_of_cell? _ _ hc⟩,hc⟩);clear hm hk hd hlt;have HQx:Hid True:=qb trivial;obtain⟨Ox,hO⟩:=qc w1.heap.size;obtain⟨Ux,hU⟩:=qc (w1.alloc (.cells #[.int .i64 x.kind,.int .i64 x.at_,.int .i64 x.num,.string ⟨x.name.toArray⟩,.slice Ax x.kids.length cx] qi));have hb:Below w1.heap.size w1 Ux:=by rw[hU];exact qd.alloc qe _
 have HLx:Hid (w.heap.size≤Ox):=qb (by rw[hO];exact HF.out.sz);have hNx:¬Ox=rb:=fun e=>by have h1:=HLx.out;have h2:=HF.out.lt;omega
 have hMx:¬rb=Ox:=fun e=>hNx e.symm;have HNx:=qb hNx;have hNxn:¬Ox=On:=fun e=>by have h1:=HXn.out.lt;omega
 have hNnx:¬On=Ox:=fun e=>hNxn e.symm;replace HF:=qb (HF.out.on hb);replace HXn:=qb (HXn.out.on hb);replace HKx:=qb (HKx.out.below hb);replace HOW:=qb (HOW.out.below hb);have HXx:Hid (Box Ux Ox qi #[.int .i64 x.kind,.int .i64 x.at_,.int .i64 x.num,.string ⟨x.name.toArray⟩,.slice Ax x.kids.length cx]):=qb (by rw[hU];exact Box.new _ _ _ _ hO);have HUx:=qb hU;have HOx:=qb hO;clear hU hO hb;obtain⟨⟨xn_0,xn_1,xn_2,xn_3,xn_4⟩,fn_0,fn_1,fn_2,fn_3,fn_4⟩:=c5 HXn.out;obtain⟨⟨xx_0,xx_1,xx_2,xx_3,xx_4⟩,fx_0,fx_1,fx_2,fx_3,fx_4⟩:=c5 HXx.out
 have HO9:Hid (qP w0.heap.size (fun b=>Dn A A' w b∨b=On∨b=Ox) Ux n.kids (.slice An n.kids.length cn)):=qb (qbP HOW.out fun b _ q=>by
   rcases q with q|q|q
   · exact Or.inl q
   · exact Or.inr (by rw[q];exact HLn.out)
   · exact Or.inr (by rw[q];exact HLx.out))
 have HKX:Hid (nt.ql (fun b=>w0.heap.size≤b∧some b≠(Value.slice An n.kids.length cn).ownBlock∧¬(Dn A A' w b∨b=On∨b=Ox)) Ux x.kids (.slice Ax x.kids.length cx)):=qb (HKx.out.mono fun b q=>⟨by have h1:=HF.out.rd.low.size;have h2:=HF.out.lt;have h3:=HF.out.rd.hB;have h4:=q.1;have h5:=HLn.out;omega,qmj HOW.out (Or.inl (Or.inr (by have h4:=q.1;have h5:=HLn.out;omega))),fun e=>by
   have h4:=q.1;have h5:=HLn.out;have h6:=q.2;rcases e with e|e|e
   · have:=e.1;omega
   · omega
   · rw[HOx.out]at e;omega⟩)
 have HAL:Hid (∀b,Dn A A' w b∨b=On∨b=Ox→b<Ux.heap.size):=qb (fun b q=>by
   rcases q with q|q|q
   · exact Nat.lt_of_lt_of_le q.1 HF.out.sz
   · rw[q];exact HXn.out.lt
   · rw[q];exact HXx.out.lt)
 have HBZ:Hid (w0.heap.size≤Ux.heap.size):=qb HF.out.rd.low.size;have HLN:Hid (n.kids.length≤1099511627776):=qb (by have:=HNL.out;omega);go_wp2_with (first|(at_builtin;refine qy rfl _ _ rfl w0.heap.size n.kids.length n.kids x (.slice An n.kids.length cn) _ Ux.heap.size rfl rfl HO9.out HDx.out HKX.out HAL.out HBZ.out rfl HLN.out rfl ?_;intro A9 c9 w9 ho9 hg9 hr9;have H9:=qb (HF.out.app HXn.out HO9.out (fun b q=>Or.inl q) (Or.inr (Or.inl rfl)) HLn.out ho9 hg9);obtain⟨⟨y0,y1,y2,y3,y4⟩,z0,z1,z2,z3,z4⟩:=c5 H9.out.2.2.2;obtain⟨V9,hV9⟩:=qc (w9.setCell ⟨On,4,none⟩ (.slice A9 (n.kids.length+1) c9));have HY9:Hid (Box V9 On qi #[.int .i64 n.kind,.int .i64 n.at_,.int .i64 n.num,.string ⟨n.name.toArray⟩,.slice A9 (n.kids.length+1) c9]):=qb (by rw[hV9];exact H9.out.1);have HF9:=qb (show Fx l v w0 rb A A' w j G z V9 from by rw[hV9];exact H9.out.2.1);have HOW9:=qb (show qP w0.heap.size (fun b=>Dn A A' w b∨b=On∨b=Ox) V9 (n.kids++[x]) (.slice A9 (n.kids.length+1) c9) from by rw[hV9];exact H9.out.2.2.1);obtain⟨⟨q0,q1,q2,q3,q4⟩,qf0,qf1,qf2,qf3,qf4⟩:=c5 HY9.out;have HV9:=qb hV9;clear ho9 hg9 hr9 hV9)|(rw[←HUx.out,←HOx.out])|(rw[←HV9.out]));refine(qdf (add n x) _ HF9.out.rd HF9.out.upA (HF9.out.hand (qi5 HOW9.out fun b q=>Or.inl q)) HDN.out HC.out).mono ?_;intro e w10 hp;obtain⟨bo,rfl,hp2⟩:=hp.form;have HE:=qb (HF9.out.of hp2);clear hp hp2;go_wp2_with fail;try go_ret
 rw[HP.out];exact HE.out
theorem qiH{l:List Tk}(hlen:l.length≤1048576)(hi:i≤(l.length:Int))(h0:I64 i):(∀n k,exR l i=.node n k→I64 k)∧(∀k,exR l i=.no k→I64 k):=by
 have he:=qbD l i;unfold I64 at h0 ⊢;constructor
 · intro n k e;rw[e]at he;have h1:=he.2.1;have h2:=he.2.2.1 hi;omega
 · intro k e;rw[e]at he;have h1:=he.1;have h2:=he.2 hi;omega
theorem qcv(n:NT)(s:Value)(h:Rd l v w0 rb A i G z w)(hA:∀b,A' b→A b)(ho:qP w0.heap.size (Dn A A' w) w n.kids s)(hl:n.kids.length≤2)(hd:Hd n)(hc:cnt G≤1049600)(hi:i≤(l.length:Int)):
   Calls Tryz.prog 72 #[.pointer (some ⟨rb,0,none⟩),.agg #[.int .i64 n.kind,.int .i64 n.at_,.int .i64 n.num,.string ⟨n.name.toArray⟩,s]] w (qw l v w0 rb A' w (qbp l i (add n) G z)):=by
 have hq:=qiH h.env.src.len hi h.num;have he:=qbD l i;unfold qbp
 cases hx:exR l i with
 |node x j=>exact qhs n s h hA ho hl (hq.1 x j hx) hd hc x hx
 |no j=>exact qhr n s h hA ho hl (hq.2 j hx) hx
 |list ns j=>rw[hx]at he;exact absurd he.1 (by simp[qL.lists])
end Go.Proofs.YtdndfifkfjoffaaGreatDoor.pm.sx
namespace Go.Proofs.YtdndfifkfjoffaaGreatDoor.pm.sx
open Go.RowKit wd lx nt ne pm mem
open vt (I64 qft qt qv qZ qee Typ qc6)
variable{l:List Tk}{v:Value}{w0:World}{rb:Nat}{A A':Nat→Prop}{i j:Int}{G:List NT}{z:Option NT}{w:World}
theorem qlw(h:Rd l v w0 rb A i G z w)(hm:isM l i [123]=false):
   Calls Tryz.prog 65 #[.pointer (some ⟨rb,0,none⟩)] w (qw l v w0 rb A w (.no i)):=by
 obtain⟨P,hP⟩:=qc (qw l v w0 rb A w (.no i):Ending→World→Prop);rw[←hP];have HP:=qb hP;clear hP;have HLEN:=qb h.env.src.len;have HM:=qb hm;have hA:∀b,A b→A b:=fun _ q=>q;have HDF:Hid (I64 (qh l i).at_):=qb (h.env.src.fair i).1;have HF:=qb (Fx.start h hA);clear h hm hA;go_enter Tryz.func65,Tryz.ntmps65
 have hfi:=fun w'=>em.qaB (qh l i) w';go_wp2_with fail;refine(qs HF.out.rs).mono ?_;rintro e w1 ⟨rfl,hb⟩;replace HF:=qb (HF.out.on hb);clear hb;unfold tkA;obtain⟨a,ha⟩:=qc ((qh l i).at_);rw[←ha]at hfi HDF ⊢;clear ha;obtain⟨On,hO⟩:=qc w1.heap.size;obtain⟨Un,hU⟩:=qc (w1.alloc (.cells #[.int .i64 30,.int .i64 a,.int .i64 0,.string ⟨#[]⟩,.slice none 0 0] qi));have hb:Below w1.heap.size w1 Un:=by rw[hU];exact qd.alloc qe _
 have HLn:Hid (w.heap.size≤On):=qb (by rw[hO];exact HF.out.sz);have hNn:¬On=rb:=fun e=>by have h1:=HLn.out;have h2:=HF.out.lt;omega
 have hMn:¬rb=On:=fun e=>hNn e.symm;have HNn:=qb hNn;replace HF:=qb (HF.out.on hb);have HXn:Hid (Box Un On qi #[.int .i64 30,.int .i64 a,.int .i64 0,.string ⟨#[]⟩,.slice none 0 0]):=qb (by rw[hU];exact Box.new _ _ _ _ hO);have HUn:=qb hU;have HOn:=qb hO;clear hU hO hb;go_wp2_with (first|(rw[←HUn.out,←HOn.out]));refine(qai [123] HF.out.rs HM.out).mono ?_;rintro e w2 ⟨rfl,hb⟩;replace HF:=qb (HF.out.on hb);replace HXn:=qb (HXn.out.on hb);clear hb;have HE:=qb (HF.out.no);go_wp2_with fail;try go_ret
 rw[HP.out];exact HE.out
theorem qj0(h:Rd l v w0 rb A i G z w)(hc:cnt G≤1049600)(hm:isM l i [123]=true):
   Calls Tryz.prog 65 #[.pointer (some ⟨rb,0,none⟩)] w (qw l v w0 rb A w (.go ⟨i+1,.mk 30 (qh l i).at_ 0 [] []::G,z⟩)):=by
 obtain⟨P,hP⟩:=qc (qw l v w0 rb A w (.go ⟨i+1,.mk 30 (qh l i).at_ 0 [] []::G,z⟩):Ending→World→Prop);rw[←hP];have HP:=qb hP;clear hP;have HLEN:=qb h.env.src.len;have HM:=qb hm;have hA:∀b,A b→A b:=fun _ q=>q;have hin:=qu hm;have HJ:Hid (I64 (i+1)):=qb (by have:=HLEN.out;unfold I64;omega);have HC:=qb hc;have HDF:Hid (Hd (.mk 30 (qh l i).at_ 0 [] [])):=qb ⟨by show I64 30;unfold I64;omega,(h.env.src.fair i).1,by show I64 0;unfold I64;omega,by show 0≤281474976710656;omega⟩;have HF:=qb (Fx.start h hA);clear h hm hA hin hc;go_enter Tryz.func65,Tryz.ntmps65
 have hfi:=fun w'=>em.qaB (qh l i) w';go_wp2_with fail;refine(qs HF.out.rs).mono ?_;rintro e w1 ⟨rfl,hb⟩;replace HF:=qb (HF.out.on hb);clear hb;unfold tkA;obtain⟨a,ha⟩:=qc ((qh l i).at_);rw[←ha]at hfi HP HDF ⊢;clear ha;obtain⟨On,hO⟩:=qc w1.heap.size;obtain⟨Un,hU⟩:=qc (w1.alloc (.cells #[.int .i64 30,.int .i64 a,.int .i64 0,.string ⟨#[]⟩,.slice none 0 0] qi));have hb:Below w1.heap.size w1 Un:=by rw[hU];exact qd.alloc qe _
 have HLn:Hid (w.heap.size≤On):=qb (by rw[hO];exact HF.out.sz);have hNn:¬On=rb:=fun e=>by have h1:=HLn.out;have h2:=HF.out.lt;omega
 have hMn:¬rb=On:=fun e=>hNn e.symm;have HNn:=qb hNn;replace HF:=qb (HF.out.on hb);have HXn:Hid (Box Un On qi #[.int .i64 30,.int .i64 a,.int .i64 0,.string ⟨#[]⟩,.slice none 0 0]):=qb (by rw[hU];exact Box.new _ _ _ _ hO);have HUn:=qb hU;have HOn:=qb hO;clear hU hO hb;go_wp2_with (first|(rw[←HUn.out,←HOn.out]));refine(qac [123] HF.out.rs HM.out).mono ?_;rintro e w2 ⟨rfl,hm⟩;replace HF:=qb (HF.out.moved hm HJ.out);replace HXn:=qb (hm.other HXn.out HNn.out);clear hm;obtain⟨vo,ss,hx⟩:=HF.out.rd;obtain⟨n0,Al0,kl0,cl0,hbx,hc2,hfz⟩:=hx.cells;obtain⟨Ao,co,rfl⟩:=qt hx.opn;have HOP0:=hx.opn;obtain⟨N,hN⟩:=qc G.length;rw[←hN]at hx hc2 HOP0;have HOP:=qb HOP0;have e2:=hfz 2;have HST:Hid (∀V w3 q cap,Below w2.heap.size w2 V→w3.ownsRow w0.heap.size qi 5 (.slice (some ⟨q,0,none⟩) (N+1) cap) (N+1) (qag G ss++[.int .i64 0,.int .i64 0,.int .i64 0,.string ⟨#[]⟩,.slice none 0 0])→V.grownBy w3 (Value.slice Ao N co).ownBlock→((Value.slice Ao N co).ownBlock=some q∨q=V.heap.size)→_):=qb (fun V w3 q cap hV p1 p2 p3=>have p:=qdp (f:=.mk 30 a 0 [] []) (s:=.slice none 0 0) (hx.on_ hV) HF.out.upA hN rfl HDF.out (qaZ _ _ _) p1 p2 p3;And.intro (And.intro p.1.1 (And.intro (HF.out.keep.trans ((show qF A w2 V from fun b q=>hV.block b (Nat.lt_of_lt_of_le (HF.out.ap b (HF.out.sub b q)).2 HF.out.sz)).trans p.1.2.1)) (Nat.le_trans HF.out.sz (Nat.le_trans hV.size p.1.2.2)))) p.2);have hrz:rb<w2.heap.size:=hbx.lt;have hHz:On<w2.heap.size:=HXn.out.lt;have HBz:Hid (w0.heap.size≤w2.heap.size):=qb HF.out.rd.low.size;have hNb:N≤1049600:=by rw[hN];exact Nat.le_trans (qbA G) HC.out
 have hN0:(0:Int)≤N:=by omega
 have hN1:(N:Int)<N+1:=by omega
 obtain⟨i0,hi,hz0,hz1,hz2⟩:=info_parts qcX;have h1c:Hid (∀u∈([.int .i64 0,.int .i64 0,.int .i64 0,.string ⟨#[]⟩,.slice none 0 0]:List Value),u.oneCell'=true):=qb (by intro u hu;simp at hu;rcases hu with rfl|rfl|rfl<;>rfl);obtain⟨⟨xn_0,xn_1,xn_2,xn_3,xn_4⟩,fn_0,fn_1,fn_2,fn_3,fn_4⟩:=c5 HXn.out;clear hbx hfz hx HOP0 hN;go_wp2_with fail
 go_region_law (first
     |(refine step_append_lies _ (by rfl) (.tmp 14) (.tmp 17) 27 (by rfl) w0.heap.size qi i0 (.agg #[.int .i64 0,.int .i64 0,.int .i64 0,.string ⟨#[]⟩,.slice none 0 0]) 5 64 Tryz.underlying27 hi hz0 hz1 hz2 (by rfl) (by decide) (.slice Ao N co) N (qag G ss) (by rfl) (HOP.out.alloc _) ⟨w2.heap.size,0,none⟩ 1 1 [.int .i64 0,.int .i64 0,.int .i64 0,.string ⟨#[]⟩,.slice none 0 0] (by rfl) (by rfl) (World.news_of_block (heap_alloc_new w2 _)) h1c.out (by decide) (by unfold maxLen;omega) (by omega) (by simp;have:=HBz.out;omega) (w2.heap.size+1) (by simp) ?_;intro q cap w3 hown hgrow hat hlt;obtain⟨p1,⟨p2,p3⟩,p6,⟨q0,q1,q2,q3,q4⟩,p10⟩:=HST.out _ w3 q cap (((Below.refl w2.heap.size w2).alloc qe _).drew) hown hgrow (hat.imp id fun h=>by rw[h];simp);have HP1:=qb p1;have z0:=p10 (N*5);have z1:=p10 (N*5+1);have z2:=p10 (N*5+2);have z3:=p10 (N*5+3);have z4:=p10 (N*5+4);have p7:¬rb=q:=(fun e=>p6 e.symm);have P6:=qb p6;clear p1 p10 hown hgrow hat))
 all_goals
   go_wp2_with fail;try go_ret
   rw[HP.out];try rw[em.qcn _ P6.out]
   exact⟨rfl,HP1.out.1,HP1.out.2.1,HP1.out.2.2⟩
theorem qcf(h:Rd l v w0 rb A i G z w)(hc:cnt G≤1049600):
   Calls Tryz.prog 65 #[.pointer (some ⟨rb,0,none⟩)] w (qw l v w0 rb A w (qa5 l i G z)):=by
 unfold qa5;by_cases hm:isM l i [123]=true
 · rw[if_pos hm];exact qj0 h hc hm
 · rw[if_neg hm];exact qlw h (em.qo hm)
theorem qhM{k a:Int}(h:Rd l v w0 rb A i G z w)(hj:I64 j)(he:exR l i=.no j):
   Calls Tryz.prog 68 #[.pointer (some ⟨rb,0,none⟩),.agg #[.int .i64 k,.int .i64 a,.int .i64 0,.string ⟨#[]⟩,.slice none 0 0]] w (qw l v w0 rb A w (.no j)):=by
 obtain⟨P,hP⟩:=qc (qw l v w0 rb A w (.no j):Ending→World→Prop);rw[←hP];have HP:=qb hP;clear hP;have HLEN:=qb h.env.src.len;have HJ:=qb hj;have HEX:=qb he;have hA:∀b,A b→A b:=fun _ q=>q;have HF:=qb (Fx.start h hA);obtain⟨On,hO⟩:=qc w.heap.size;obtain⟨Un,hU⟩:=qc (w.alloc (.cells #[.int .i64 k,.int .i64 a,.int .i64 0,.string ⟨#[]⟩,.slice none 0 0] qi));have hb:Below w.heap.size w Un:=by rw[hU];exact qd.alloc qe _
 have HLn:Hid (w.heap.size≤On):=qb (by rw[hO];exact HF.out.sz);have hNn:¬On=rb:=fun e=>by have h1:=HLn.out;have h2:=HF.out.lt;omega
 have hMn:¬rb=On:=fun e=>hNn e.symm;have HNn:=qb hNn;replace HF:=qb (HF.out.on hb);have HXn:Hid (Box Un On qi #[.int .i64 k,.int .i64 a,.int .i64 0,.string ⟨#[]⟩,.slice none 0 0]):=qb (by rw[hU];exact Box.new _ _ _ _ hO);have HUn:=qb hU;have HOn:=qb hO;clear hU hO hb;clear h he hj hA;go_enter Tryz.func68,Tryz.ntmps68
 go_wp2_with (first|(rw[←HUn.out,←HOn.out]));refine(qeo HF.out.rs HEX.out).mono ?_;rintro e w1 ⟨rfl,hm⟩;replace HF:=qb (HF.out.moved hm HJ.out);replace HXn:=qb (hm.other HXn.out HNn.out);clear hm;obtain⟨Ox,hO⟩:=qc w1.heap.size;obtain⟨Ux,hU⟩:=qc (w1.alloc (.cells #[.int .i64 0,.int .i64 0,.int .i64 0,.string ⟨#[]⟩,.slice none 0 0] qi));have hb:Below w1.heap.size w1 Ux:=by rw[hU];exact qd.alloc qe _
 have HLx:Hid (w.heap.size≤Ox):=qb (by rw[hO];exact HF.out.sz);have hNx:¬Ox=rb:=fun e=>by have h1:=HLx.out;have h2:=HF.out.lt;omega
 have hMx:¬rb=Ox:=fun e=>hNx e.symm;have HNx:=qb hNx;have hNxn:¬Ox=On:=fun e=>by have h1:=HXn.out.lt;omega
 have hNnx:¬On=Ox:=fun e=>hNxn e.symm;replace HF:=qb (HF.out.on hb);replace HXn:=qb (HXn.out.on hb);have HXx:Hid (Box Ux Ox qi #[.int .i64 0,.int .i64 0,.int .i64 0,.string ⟨#[]⟩,.slice none 0 0]):=qb (by rw[hU];exact Box.new _ _ _ _ hO);have HUx:=qb hU;have HOx:=qb hO;clear hU hO hb;have HE:=qb ((HF.out.five HLx.out (.int .i64 0) (.int .i64 0) (.int .i64 0) (.string ⟨#[]⟩) (.slice none 0 0)).no);obtain⟨⟨xn_0,xn_1,xn_2,xn_3,xn_4⟩,fn_0,fn_1,fn_2,fn_3,fn_4⟩:=c5 HXn.out;obtain⟨⟨xx_0,xx_1,xx_2,xx_3,xx_4⟩,fx_0,fx_1,fx_2,fx_3,fx_4⟩:=c5 HXx.out;go_wp2_with (first|(rw[←HUx.out,←HOx.out]));try go_ret
 rw[HP.out];exact HE.out
theorem qhN{k a:Int}(h:Rd l v w0 rb A i G z w)(hj:I64 j)(hd:I64 k∧I64 a)(hc:cnt G≤1049500)(x:NT)(he:exR l i=.node x j):
   Calls Tryz.prog 68 #[.pointer (some ⟨rb,0,none⟩),.agg #[.int .i64 k,.int .i64 a,.int .i64 0,.string ⟨#[]⟩,.slice none 0 0]] w (qw l v w0 rb A w (qa5 l j (.mk k a 0 [] [x]::G) z)):=by
 obtain⟨P,hP⟩:=qc (qw l v w0 rb A w (qa5 l j (.mk k a 0 [] [x]::G) z):Ending→World→Prop);rw[←hP];have HP:=qb hP;clear hP;have HLEN:=qb h.env.src.len;have HJ:=qb hj;have HEX:=qb he;have HC:Hid (cnt G≤1049600):=qb (by omega);have HC2:=qb hc;have hA:∀b,A b→A b:=fun _ q=>q;have HDF:Hid (Hd (.mk k a 0 [] [x])):=qb ⟨hd.1,hd.2,by show I64 0;unfold I64;omega,by show 0≤281474976710656;omega⟩;have HOW:=qb (qaZ w0.heap.size (fun b=>Dn A A w b∨w.heap.size≤b) w);have HF:=qb (Fx.start h hA);obtain⟨On,hO⟩:=qc w.heap.size;obtain⟨Un,hU⟩:=qc (w.alloc (.cells #[.int .i64 k,.int .i64 a,.int .i64 0,.string ⟨#[]⟩,.slice none 0 0] qi));have hb:Below w.heap.size w Un:=by rw[hU];exact qd.alloc qe _
 have HLn:Hid (w.heap.size≤On):=qb (by rw[hO];exact HF.out.sz);have hNn:¬On=rb:=fun e=>by have h1:=HLn.out;have h2:=HF.out.lt;omega
 have hMn:¬rb=On:=fun e=>hNn e.symm;have HNn:=qb hNn;replace HF:=qb (HF.out.on hb);replace HOW:=qb (HOW.out.below hb);have HXn:Hid (Box Un On qi #[.int .i64 k,.int .i64 a,.int .i64 0,.string ⟨#[]⟩,.slice none 0 0]):=qb (by rw[hU];exact Box.new _ _ _ _ hO);have HUn:=qb hU;have HOn:=qb hO;clear hU hO hb;clear h he hj hd hc hA;go_enter Tryz.func68,Tryz.ntmps68
 go_wp2_with (first|(rw[←HUn.out,←HOn.out]));refine(qdg x HF.out.rs HEX.out).mono ?_;rintro e w1 ⟨sx,rfl,hk,hd,hm⟩;obtain⟨Ax,cx,rfl,_⟩:=hk.form;have hlt:=HXn.out.lt;replace HF:=qb (HF.out.moved hm HJ.out);replace HXn:=qb (hm.other HXn.out HNn.out);replace HOW:=qb (qjF HOW.out hm (Or.inl HF.out.dn));have HDx:=qb hd;have HKx:Hid (nt.ql (fun b=>On<b∧b<w1.heap.size) w1 x.kids (.slice Ax x.kids.length cx)):=qb (hk.carry fun b o u q hc=>⟨⟨Nat.lt_of_lt_of_le hlt q,World.block_lt_of_cell? _ _ hc⟩,hc⟩);clear hm hk hd hlt;have HQx:Hid True:=qb trivial;obtain⟨Ox,hO⟩:=qc w1.heap.size;obtain⟨Ux,hU⟩:=qc (w1.alloc (.cells #[.int .i64 x.kind,.int .i64 x.at_,.int .i64 x.num,.string ⟨x.name.toArray⟩,.slice Ax x.kids.length cx] qi));have hb:Below w1.heap.size w1 Ux:=by rw[hU];exact qd.alloc qe _
 have HLx:Hid (w.heap.size≤Ox):=qb (by rw[hO];exact HF.out.sz);have hNx:¬Ox=rb:=fun e=>by have h1:=HLx.out;have h2:=HF.out.lt;omega
 have hMx:¬rb=Ox:=fun e=>hNx e.symm;have HNx:=qb hNx;have hNxn:¬Ox=On:=fun e=>by have h1:=HXn.out.lt;omega
 have hNnx:¬On=Ox:=fun e=>hNxn e.symm;replace HF:=qb (HF.out.on hb);replace HXn:=qb (HXn.out.on hb);replace HKx:=qb (HKx.out.below hb);replace HOW:=qb (HOW.out.below hb);have HXx:Hid (Box Ux Ox qi #[.int .i64 x.kind,.int .i64 x.at_,.int .i64 x.num,.string ⟨x.name.toArray⟩,.slice Ax x.kids.length cx]):=qb (by rw[hU];exact Box.new _ _ _ _ hO);have HUx:=qb hU;have HOx:=qb hO;clear hU hO hb;have HNL:Hid (([]:List NT).length≤2):=qb (by simp);obtain⟨⟨xn_0,xn_1,xn_2,xn_3,xn_4⟩,fn_0,fn_1,fn_2,fn_3,fn_4⟩:=c5 HXn.out;obtain⟨⟨xx_0,xx_1,xx_2,xx_3,xx_4⟩,fx_0,fx_1,fx_2,fx_3,fx_4⟩:=c5 HXx.out
 have HO9:Hid (qP w0.heap.size (fun b=>Dn A A w b∨b=On∨b=Ox) Ux [] (.slice none 0 0)):=qb (qbP HOW.out fun b _ q=>by
   rcases q with q|q|q
   · exact Or.inl q
   · exact Or.inr (by rw[q];exact HLn.out)
   · exact Or.inr (by rw[q];exact HLx.out))
 have HKX:Hid (nt.ql (fun b=>w0.heap.size≤b∧some b≠(Value.slice none 0 0).ownBlock∧¬(Dn A A w b∨b=On∨b=Ox)) Ux x.kids (.slice Ax x.kids.length cx)):=qb (HKx.out.mono fun b q=>⟨by have h1:=HF.out.rd.low.size;have h2:=HF.out.lt;have h3:=HF.out.rd.hB;have h4:=q.1;have h5:=HLn.out;omega,qmj HOW.out (Or.inl (Or.inr (by have h4:=q.1;have h5:=HLn.out;omega))),fun e=>by
   have h4:=q.1;have h5:=HLn.out;have h6:=q.2;rcases e with e|e|e
   · have:=e.1;omega
   · omega
   · rw[HOx.out]at e;omega⟩)
 have HAL:Hid (∀b,Dn A A w b∨b=On∨b=Ox→b<Ux.heap.size):=qb (fun b q=>by
   rcases q with q|q|q
   · exact Nat.lt_of_lt_of_le q.1 HF.out.sz
   · rw[q];exact HXn.out.lt
   · rw[q];exact HXx.out.lt)
 have HBZ:Hid (w0.heap.size≤Ux.heap.size):=qb HF.out.rd.low.size;have HLN:Hid (True):=qb trivial;go_wp2_with (first|(at_builtin;refine qy rfl _ _ rfl w0.heap.size 0 [] x (.slice none 0 0) _ Ux.heap.size rfl rfl HO9.out HDx.out HKX.out HAL.out HBZ.out rfl (by omega) rfl ?_;intro A9 c9 w9 ho9 hg9 hr9;have H9:=qb (HF.out.app HXn.out HO9.out (fun b q=>Or.inl q) (Or.inr (Or.inl rfl)) HLn.out ho9 hg9);obtain⟨⟨y0,y1,y2,y3,y4⟩,z0,z1,z2,z3,z4⟩:=c5 H9.out.2.2.2;obtain⟨V9,hV9⟩:=qc (w9.setCell ⟨On,4,none⟩ (.slice A9 1 c9));have HY9:Hid (Box V9 On qi #[.int .i64 k,.int .i64 a,.int .i64 0,.string ⟨#[]⟩,.slice A9 1 c9]):=qb (by rw[hV9];exact H9.out.1);have HF9:=qb (show Fx l v w0 rb A A w j G z V9 from by rw[hV9];exact H9.out.2.1);have HOW9:=qb (show qP w0.heap.size (fun b=>Dn A A w b∨b=On∨b=Ox) V9 [x] (.slice A9 1 c9) from by rw[hV9];exact H9.out.2.2.1);obtain⟨⟨q0,q1,q2,q3,q4⟩,qf0,qf1,qf2,qf3,qf4⟩:=c5 HY9.out;have HV9:=qb hV9;clear ho9 hg9 hr9 hV9)|(rw[←HUx.out,←HOx.out])|(rw[←HV9.out]));replace HF:=HF9;replace HXn:=HY9;replace HOW:=HOW9;obtain⟨vo,ss,hx⟩:=HF.out.rd;obtain⟨n0,Al0,kl0,cl0,hbx,hc2,hfz⟩:=hx.cells;obtain⟨Ao,co,rfl⟩:=qt hx.opn;have HOP0:=hx.opn;obtain⟨N,hN⟩:=qc G.length;rw[←hN]at hx hc2 HOP0;have HOP:=qb HOP0;have e2:=hfz 2;have HST:Hid (∀V w3 q cap,Below V9.heap.size V9 V→w3.ownsRow w0.heap.size qi 5 (.slice (some ⟨q,0,none⟩) (N+1) cap) (N+1) (qag G ss++[.int .i64 0,.int .i64 0,.int .i64 0,.string ⟨#[]⟩,.slice none 0 0])→V.grownBy w3 (Value.slice Ao N co).ownBlock→((Value.slice Ao N co).ownBlock=some q∨q=V.heap.size)→_):=qb (fun V w3 q cap hV p1 p2 p3=>have p:=qdp (f:=.mk k a 0 [] [x]) (s:=.slice A9 1 c9) (hx.on_ hV) HF.out.upA hN rfl HDF.out (qbP ((qh2 (HF.out.own (fun b q=>Or.inl q) HOW.out)).below hV) fun b _ q2=>(Nat.lt_or_ge b V9.heap.size).elim (fun h=>Or.inl ⟨h,q2.2⟩) Or.inr) p1 p2 p3;And.intro (And.intro p.1.1 (And.intro (HF.out.keep.trans ((show qF A V9 V from fun b q=>hV.block b (Nat.lt_of_lt_of_le (HF.out.ap b (HF.out.sub b q)).2 HF.out.sz)).trans p.1.2.1)) (Nat.le_trans HF.out.sz (Nat.le_trans hV.size p.1.2.2)))) p.2);have hrz:rb<V9.heap.size:=hbx.lt;have hHz:On<V9.heap.size:=HXn.out.lt;have HBz:Hid (w0.heap.size≤V9.heap.size):=qb HF.out.rd.low.size;have hNb:N≤1049600:=by rw[hN];exact Nat.le_trans (qbA G) HC.out
 have hN0:(0:Int)≤N:=by omega
 have hN1:(N:Int)<N+1:=by omega
 obtain⟨i0,hi,hz0,hz1,hz2⟩:=info_parts qcX;have h1c:Hid (∀u∈([.int .i64 0,.int .i64 0,.int .i64 0,.string ⟨#[]⟩,.slice none 0 0]:List Value),u.oneCell'=true):=qb (by intro u hu;simp at hu;rcases hu with rfl|rfl|rfl<;>rfl);obtain⟨⟨xn_0,xn_1,xn_2,xn_3,xn_4⟩,fn_0,fn_1,fn_2,fn_3,fn_4⟩:=c5 HXn.out;clear hbx hfz hx HOP0 hN;go_wp2_with fail
 go_region_law (first
     |(refine step_append_lies _ (by rfl) (.tmp 23) (.tmp 26) 27 (by rfl) w0.heap.size qi i0 (.agg #[.int .i64 0,.int .i64 0,.int .i64 0,.string ⟨#[]⟩,.slice none 0 0]) 5 64 Tryz.underlying27 hi hz0 hz1 hz2 (by rfl) (by decide) (.slice Ao N co) N (qag G ss) (by rfl) (HOP.out.alloc _) ⟨V9.heap.size,0,none⟩ 1 1 [.int .i64 0,.int .i64 0,.int .i64 0,.string ⟨#[]⟩,.slice none 0 0] (by rfl) (by rfl) (World.news_of_block (heap_alloc_new V9 _)) h1c.out (by decide) (by unfold maxLen;omega) (by omega) (by simp;have:=HBz.out;omega) (V9.heap.size+1) (by simp) ?_;intro q cap w3 hown hgrow hat hlt;obtain⟨p1,⟨p2,p3⟩,p6,⟨q0,q1,q2,q3,q4⟩,p10⟩:=HST.out _ w3 q cap (((Below.refl V9.heap.size V9).alloc qe _).drew) hown hgrow (hat.imp id fun h=>by rw[h];simp);have HP1:=qb p1;have z0:=p10 (N*5);have z1:=p10 (N*5+1);have z2:=p10 (N*5+2);have z3:=p10 (N*5+3);have z4:=p10 (N*5+4);have p7:¬rb=q:=(fun e=>p6 e.symm);have P6:=qb p6;clear p1 p10 hown hgrow hat))
 all_goals
   try rw[em.qcn _ P6.out]
   go_wp2_with fail;try rw[em.qcn _ P6.out]
   refine(qcf HP1.out.1 (by rw[cnt];have:=HC2.out;simp[NT.kids];omega)).mono ?_;intro e w10 hp;obtain⟨bo,rfl,hp2⟩:=hp.form;have HE:=qb (hp2.of HP1.out.2.1 HP1.out.2.2);clear hp hp2;go_wp2_with fail;try go_ret
   rw[HP.out];exact HE.out
theorem qfi{k a:Int}(h:Rd l v w0 rb A i G z w)(hd:I64 k∧I64 a)(hc:cnt G≤1049500)(hi:i≤(l.length:Int)):
   Calls Tryz.prog 68 #[.pointer (some ⟨rb,0,none⟩),.agg #[.int .i64 k,.int .i64 a,.int .i64 0,.string ⟨#[]⟩,.slice none 0 0]] w (qw l v w0 rb A w (qbT l i k a G z)):=by
 have hq:=qiH h.env.src.len hi h.num;have he:=qbD l i;unfold qbT
 cases hx:exR l i with
 |node x j=>exact qhN h (hq.1 x j hx) hd hc x hx
 |no j=>exact qhM h (hq.2 j hx) hx
 |list ns j=>rw[hx]at he;exact absurd he.1 (by simp[qL.lists])
end Go.Proofs.YtdndfifkfjoffaaGreatDoor.pm.sx

/- The package's reader of statements within a method: what is held, a node in hand, what is told. (and what it stands on) -/
import Derived.Test.YtdndfifkfjoffaaGreatDoorZal
import Derived.Test.YtdndfifkfjoffaaGreatDoorProg
import Derived.Lib.QuietBelow
import Derived.BigQuiet
import Derived.Test.YtdndfifkfjoffaaGreatDoorZah
import Derived.Test.YtdndfifkfjoffaaGreatDoorZae
import Derived.Test.YtdndfifkfjoffaaGreatDoorZak
import Derived.Deep.RegionHeld
import Derived.Deep.AppendLies
import Derived.OwnWalk
import Derived.Test.YtdndfifkfjoffaaGreatDoorZab
import Derived.Deep.RegionLaw
import Derived.Test.YtdndfifkfjoffaaGreatDoorZaa
set_option maxRecDepth 100000
set_option maxHeartbeats 4000000
namespace Go.Proofs.YtdndfifkfjoffaaGreatDoor.pm.sx
open Go.RowKit wd lx nt ne pm mem
open vt (I64 qft qt qv qZ qee Typ qc6)
variable{l:List Tk}{v:Value}{w0:World}{rb:Nat}{A A':Nat→Prop}{i j:Int}{G:List NT}{z:Option NT}{vo:Value}{ss:List Value}{w w':World}
theorem RdX.on_(h:RdX l v w0 rb A i G z vo ss w)(hb:Below w.heap.size w w'):RdX l v w0 rb A i G z vo ss w':=
 (h.next (fun k h1 _ _=>hb.block k h1) (h.low.trans (hb.mono h.low.size)) hb.size h.num fun _ _ _ _ _ _ q=>q.on hb).mono fun _ q=>Or.inl q
theorem RdX.keepb(h:RdX l v w0 rb A i G z vo ss w)(hb:Below w.heap.size w w'):qF A w w':=fun b q=>hb.block b (h.ap b q).2.1
theorem qbA:∀G:List NT,G.length≤cnt G
 |[]=>Nat.le_refl _
 |f::G=>by rw[List.length_cons,cnt];have:=qbA G;omega
theorem RdX.cells(h:RdX l v w0 rb A i G z vo ss w):∃(n:NT) (Al:Option Addr) (kl cl:Nat),Box w rb RdT (rdC v i vo (.int .i64 n.kind) (.int .i64 n.at_) (.int .i64 n.num) (.string ⟨n.name.toArray⟩) (.slice Al kl cl))∧w.cell? ⟨rb,2,none⟩=some vo∧∀k,w.frozen? ⟨rb,k,none⟩=false:=by
 obtain⟨n,Al,kl,cl,hb,_⟩:=h.box;exact⟨n,Al,kl,cl,hb,hb.cell 2,hb.frozen⟩
theorem qnD(n:NT)(s:Value)(h:RdX l v w0 rb A i [] z vo ss w)(hd:Hd n)(hk:nt.ql (KP w0 rb A vo ss) w n.kids s):
   Calls Tryz.prog 98 #[.pointer (some ⟨rb,0,none⟩),.agg #[.int .i64 n.kind,.int .i64 n.at_,.int .i64 n.num,.string ⟨n.name.toArray⟩,s]] w (fun e w'=>e=.returned (.tuple #[])∧Rd l v w0 rb A i [] (some n) w'∧qF A w w'∧w.heap.size≤w'.heap.size):=by
 obtain⟨As,cs,rfl,_⟩:=hk.form;obtain⟨H,hH⟩:=qc w.heap.size;obtain⟨M,hM⟩:=qc n.kids.length;rw[←hM]at hk ⊢;obtain⟨W,hW⟩:=qc (w.alloc (.cells #[.int .i64 n.kind,.int .i64 n.at_,.int .i64 n.num,.string ⟨n.name.toArray⟩,.slice As M cs] qi));have bH:Box W H qi #[.int .i64 n.kind,.int .i64 n.at_,.int .i64 n.num,.string ⟨n.name.toArray⟩,.slice As M cs]:=by rw[hW];exact Box.new _ _ _ _ hH
 have hb:Below w.heap.size w W:=by rw[hW];exact qd.alloc qe _
 have hl:=(h.on_ hb).last hd (hk.below hb);have HL:Hid _:=qb (And.intro (show Rd l v w0 rb A i [] (some n) _ from⟨vo,ss,hl.1⟩) (And.intro ((h.keepb hb).trans hl.2.1) (Nat.le_trans hb.size hl.2.2)));obtain⟨m,Al,kl,cl,hbx,c2,hf⟩:=(h.on_ hb).cells;have f3:=hf 3;have f4:=hf 4;have f5:=hf 5;have f6:=hf 6;have f7:=hf 7;have x3:=hbx.cell 3;have x4:=hbx.cell 4;have x5:=hbx.cell 5;have x6:=hbx.cell 6;have x7:=hbx.cell 7;have y0:=bH.cell 0;have y1:=bH.cell 1;have y2:=bH.cell 2;have y3:=bH.cell 3;have y4:=bH.cell 4;simp only[qg]at y0 y1 y2 y3 y4 x3 x4 x5 x6 x7;obtain⟨Ao,co,rfl⟩:=qt h.opn;rw[List.length_nil]at c2;have hrH:¬rb=H:=by rw[hH];have:=h.lt;omega
 have hHr:¬H=rb:=fun e=>hrH e.symm;have HW:=qb hW;have HHH:=qb hH;clear hW hH bH hb hl hf hbx hd hk h hM;go_enter Tryz.func98,Tryz.ntmps98
 go_wp2_with (first|(rw[←HW.out,←HHH.out]));refine bodyPost_ret (results_none rfl _ _ _) rfl ?_;exact⟨rfl,HL.out.1,HL.out.2.1,HL.out.2.2⟩
theorem qkr{f n:NT}{s:Value}{N M g c q cap cr:Nat}{Ar:Option Addr}{V w3:World}{As:Option Addr}{nl cs:Nat}(h:RdX l v w0 rb A i (f::G) z (.slice (some ⟨g,0,none⟩) (N+1) c) (s::ss) V)(hN:N=G.length)(hs:s=.slice Ar M cr)(hM:M=f.kids.length)
   (hd:Hd n)(hk:nt.ql (KP w0 rb A (.slice (some ⟨g,0,none⟩) (N+1) c) (s::ss)) V n.kids (.slice As nl cs))(xs:List Value)(hxl:xs.length=M*5)(hnx:qI (KP w0 rb A (.slice (some ⟨g,0,none⟩) (N+1) c) (s::ss)) V f.kids xs)
   (hown:w3.ownsRow w0.heap.size qi 5 (.slice (some ⟨q,0,none⟩) (M+1) cap) (M+1) (xs++[.int .i64 0,.int .i64 0,.int .i64 0,.string ⟨#[]⟩,.slice none 0 0]))(hg:V.grownBy w3 s.ownBlock)(hat:s.ownBlock=some q∨q=V.heap.size):
   (Rd l v w0 rb A i (add f n::G) z ((em.qa4 w3 q (M*5) (.int .i64 n.kind) (.int .i64 n.at_) (.int .i64 n.num) (.string ⟨n.name.toArray⟩) (.slice As nl cs)).setCell ⟨g,N*5+4,none⟩ (.slice (some ⟨q,0,none⟩) (M+1) cap))∧qF A V ((em.qa4 w3 q (M*5) (.int .i64 n.kind) (.int .i64 n.at_) (.int .i64 n.num) (.string ⟨n.name.toArray⟩) (.slice As nl cs)).setCell ⟨g,N*5+4,none⟩ (.slice (some ⟨q,0,none⟩) (M+1) cap))∧V.heap.size≤((em.qa4 w3 q (M*5) (.int .i64 n.kind) (.int .i64 n.at_) (.int .i64 n.num) (.string ⟨n.name.toArray⟩) (.slice As nl cs)).setCell ⟨g,N*5+4,none⟩ (.slice (some ⟨q,0,none⟩) (M+1) cap)).heap.size)∧
   (w3.cell? ⟨g,N*5+4,none⟩=some s∧w3.frozen? ⟨g,N*5+4,none⟩=false)∧¬q=g∧
   (w3.cell? ⟨q,M*5,none⟩=some (.int .i64 0)∧w3.cell? ⟨q,M*5+1,none⟩=some (.int .i64 0)∧w3.cell? ⟨q,M*5+2,none⟩=some (.int .i64 0)∧w3.cell? ⟨q,M*5+3,none⟩=some (.string ⟨#[]⟩)∧w3.cell? ⟨q,M*5+4,none⟩=some (.slice none 0 0))∧∀k,w3.frozen? ⟨q,k,none⟩=false:=by
 obtain⟨g1,c1,s1,rest,he,hv,hgB,hgl,hgr,hgc,hcell,hfz⟩:=h.top;injection he with he1 he2
 subst he1 he2;injection hv with hv1 hv2 hv3
 injection hv1 with hv1
 injection hv1 with hv1
 subst hv1;have hsg:s.ownBlock≠some g:=fun e=>h.sep s (List.mem_cons_self ..) g e rfl;have hat':s.ownBlock=some q∨V.heap.size≤q:=hat.imp id fun h=>by omega
 have hqg:¬q=g:=by
   rintro rfl;rcases hat' with e|e
   · exact hsg e
   · omega
 have hgk:w3.heap[g]?=V.heap[g]?:=hg.block g hgl fun e=>hsg e.symm;have c0:=hown.cellAt (M*5) (by omega);have c1:=hown.cellAt (M*5+1) (by omega);have c2:=hown.cellAt (M*5+2) (by omega);have c3:=hown.cellAt (M*5+3) (by omega);have c4:=hown.cellAt (M*5+4) (by omega);rw[List.getElem?_append_right (by omega),show M*5-xs.length=0 by omega]at c0;rw[List.getElem?_append_right (by omega),show M*5+1-xs.length=1 by omega]at c1;rw[List.getElem?_append_right (by omega),show M*5+2-xs.length=2 by omega]at c2;rw[List.getElem?_append_right (by omega),show M*5+3-xs.length=3 by omega]at c3;rw[List.getElem?_append_right (by omega),show M*5+4-xs.length=4 by omega]at c4;have o5:=(((((hown.stored (M*5) (.int .i64 n.kind)).1.stored (M*5+1) (.int .i64 n.at_)).1.stored (M*5+2) (.int .i64 n.num)).1.stored (M*5+3) (.string ⟨n.name.toArray⟩)).1.stored (M*5+4) (.slice As nl cs)).1;rw[em.qnI _ _ _ _ _ _ _ _ _ _ _ _ hxl]at o5;have g5:=vt.qW (i:=M*5+4) (vt.qW (i:=M*5+3) (vt.qW (i:=M*5+2) (vt.qW (i:=M*5+1) (vt.qW (i:=M*5) hg hat' (.int .i64 n.kind)) hat' (.int .i64 n.at_)) hat' (.int .i64 n.num)) hat' (.string ⟨n.name.toArray⟩)) hat' (.slice As nl cs);refine⟨?_,⟨(World.cell?_of_block (a:=⟨g,N*5+4,none⟩) hgk).trans ?_,(World.frozen?_of_block (a:=⟨g,N*5+4,none⟩) hgk).trans (hfz _)⟩,hqg,⟨c0,c1,c2,c3,c4⟩,fun k=>hown.frozenAt k⟩
 · have p:=RdX.grow (s':=.slice (some ⟨q,0,none⟩) (M+1) cap) (sn:=.slice As nl cs) (n:=n) (xs:=xs) (w4:=em.qa4 w3 q (M*5) (.int .i64 n.kind) (.int .i64 n.at_) (.int .i64 n.num) (.string ⟨n.name.toArray⟩) (.slice As nl cs)) h hN g5 (fun k hk2=>by
     have e:q=k:=by simpa [Value.ownBlock]using hk2
     rw[←e];exact hat') hnx (by rw[←hM];exact o5) hd hk
   exact⟨⟨_,_,p.1⟩,p.2,by rw[World.size_setCell];exact g5.size⟩
 · have:=hcell 4 s rfl;rw[hN];exact this
theorem qmq(f n:NT)(s:Value)(h:RdX l v w0 rb A i (f::G) z vo ss w)(hc:cnt (f::G)≤1049600)(hd:Hd n)(hk:nt.ql (KP w0 rb A vo ss) w n.kids s):
   Calls Tryz.prog 98 #[.pointer (some ⟨rb,0,none⟩),.agg #[.int .i64 n.kind,.int .i64 n.at_,.int .i64 n.num,.string ⟨n.name.toArray⟩,s]] w (fun e w'=>e=.returned (.tuple #[])∧Rd l v w0 rb A i (add f n::G) z w'∧qF A w w'∧w.heap.size≤w'.heap.size):=by
 obtain⟨As,cs,rfl,_⟩:=hk.form;obtain⟨H,hH⟩:=qc w.heap.size;obtain⟨nl,hnl⟩:=qc n.kids.length;rw[←hnl]at hk ⊢;obtain⟨W,hW⟩:=qc (w.alloc (.cells #[.int .i64 n.kind,.int .i64 n.at_,.int .i64 n.num,.string ⟨n.name.toArray⟩,.slice As nl cs] qi));have bH:Box W H qi #[.int .i64 n.kind,.int .i64 n.at_,.int .i64 n.num,.string ⟨n.name.toArray⟩,.slice As nl cs]:=by rw[hW];exact Box.new _ _ _ _ hH
 have hb:Below w.heap.size w W:=by rw[hW];exact qd.alloc qe _
 have hX:=h.on_ hb;obtain⟨m,Al,kl,cl,hbx,c2,hf⟩:=hX.cells;obtain⟨g,c,s,rest,rfl,rfl,hgB,hgl,hgr,hgc,hcell,hfz⟩:=hX.top;have hfr:=hX.frs;rw[Frs]at hfr;obtain⟨s1,rest1,xs,he,h1,h2,h3,h4,h5⟩:=hfr;injection he with he1 he2
 subst he1 he2;obtain⟨Ar,cr,hsf⟩:=qt h1;obtain⟨N,hN⟩:=qc G.length;obtain⟨M,hM⟩:=qc f.kids.length;have hbds:N≤1049600∧M≤1049600:=by have:=qbA G;rw[cnt]at hc;omega
 have hxl:=h2.len;rw[←hN]at hX c2 hcell hk;rw[←hM]at hsf h1 hxl;have e4:=hcell 4 s rfl;have y0:=bH.cell 0;have y1:=bH.cell 1;have y2:=bH.cell 2;have y3:=bH.cell 3;have y4:=bH.cell 4;simp only[qg]at y0 y1 y2 y3 y4;have ef4:=hfz (N*5+4)
 have hHg:¬H=g:=by
   intro e;have h9:=(h.opn.lt g rfl).2;omega
 have hgH:¬g=H:=fun e=>hHg e.symm;have hrH:¬rb=H:=by rw[hH];have:=h.lt;omega
 have hHr:¬H=rb:=fun e=>hrH e.symm;rw[←hN]at h2;have hkW:=hk.below hb;have HST:Hid (∀V w3 q cap,Below W.heap.size W V→w3.ownsRow w0.heap.size qi 5 (.slice (some ⟨q,0,none⟩) (M+1) cap) (M+1) (xs++[.int .i64 0,.int .i64 0,.int .i64 0,.string ⟨#[]⟩,.slice none 0 0])→V.grownBy w3 s.ownBlock→(s.ownBlock=some q∨q=V.heap.size)→_):=qb (fun V w3 q cap hV p1 p2 p3=>have p:=qkr (n:=n) (As:=As) (nl:=nl) (cs:=cs) (hX.on_ hV) hN hsf hM hd (hkW.below hV) xs hxl (h2.below hV) p1 p2 p3;And.intro (And.intro p.1.1 (And.intro ((h.keepb hb).trans ((hX.keepb hV).trans p.1.2.1)) (Nat.le_trans hb.size (Nat.le_trans hV.size p.1.2.2)))) p.2);have HO:Hid (W.ownsRow w0.heap.size qi 5 s M xs):=qb h1;have HBz:Hid (w0.heap.size≤W.heap.size):=qb hX.low.size;obtain⟨i0,hi,hz0,hz1,hz2⟩:=info_parts qcX;have h1c:Hid (∀u∈[Value.int .i64 0,.int .i64 0,.int .i64 0,.string ⟨#[]⟩,.slice none 0 0],u.oneCell'=true):=qb (by intro u hu;simp at hu;rcases hu with rfl|rfl|rfl<;>rfl);subst hsf;have hM0:(0:Int)≤M:=by omega
 have hM1:(M:Int)<M+1:=by omega
 have hN0:IntKind.i64.wrap ((N:Int)+1-1)=N:=by rw[IntWalk.i64_in _ (by omega)];omega
 have hN1:IntKind.i64.wrap (N:Int)=N:=IntWalk.i64_in _ (by omega);have hN2:((N:Int)+1==0)=false:=beq_eq_false_iff_ne.2 (by omega);have hN3:(0:Int)≤(N:Int):=by omega
 have hN4:(N:Int)<(N:Int)+1:=by omega
 have HBD:=qb hbds;have HHW:=qb bH.lt;have HGW:=qb hgl;have HW:=qb hW;have HHH:=qb hH;clear hW hH bH hb hX hf hbx hfz hcell h2 h3 h4 h5 hk hd h hN hM hnl hc h1 hxl hbds hkW hgB hgl hgc;go_enter Tryz.func98,Tryz.ntmps98
 go_wp2_with (first|(rw[←HW.out,←HHH.out]))
 go_quiet (fail)
 go_wp2_with fail;generalize hU:World.drewN W _=U;have ec:∀p,U.cell? p=W.cell? p:=fun p=>by rw[←hU];rfl
 have ef:∀p,U.frozen? p=W.frozen? p:=fun p=>by rw[←hU];rfl
 have e4:=(ec _).trans e4;have y0:=(ec _).trans y0;have y1:=(ec _).trans y1;have y2:=(ec _).trans y2;have y3:=(ec _).trans y3;have y4:=(ec _).trans y4;have HO2:Hid (U.ownsRow w0.heap.size qi 5 (.slice Ar M cr) M xs):=qb (by rw[←hU];exact qv HO.out (below_drewN qd _));have HBU:Hid (Below W.heap.size W U):=qb (by rw[←hU];exact below_drewN qd _);have hHz:H<U.heap.size:=Nat.lt_of_lt_of_le HHW.out HBU.out.size;have hgz:g<U.heap.size:=Nat.lt_of_lt_of_le HGW.out HBU.out.size;clear ec ef hU
 go_region_law (first
   |(refine step_append_lies _ (by rfl) (.tmp 29) (.tmp 32) 27 (by rfl) w0.heap.size qi i0 (.agg #[.int .i64 0,.int .i64 0,.int .i64 0,.string ⟨#[]⟩,.slice none 0 0]) 5 64 Tryz.underlying27 hi hz0 hz1 hz2 (by rfl) (by decide) (.slice Ar M cr) M xs (by rfl) (HO2.out.alloc _) ⟨U.heap.size,0,none⟩ 1 1 [.int .i64 0,.int .i64 0,.int .i64 0,.string ⟨#[]⟩,.slice none 0 0] (by rfl) (by rfl) (World.news_of_block (heap_alloc_new U _)) h1c.out (by decide) (by unfold maxLen;have:=HBD.out;omega) (by have:=HBD.out;omega) (by simp;have:=HBz.out;have:=HBU.out.size;omega) (U.heap.size+1) (by simp) ?_;intro q cap w3 hown hgrow hat hlt;obtain⟨p1,⟨p2,p3⟩,p6,⟨q0,q1,q2,q3,q4⟩,p10⟩:=HST.out _ w3 q cap (HBU.out.trans (((Below.refl U.heap.size U).alloc qe _).drew.mono HBU.out.size)) hown hgrow (hat.imp id fun h=>by rw[h];simp);have HP1:=qb p1;have z0:=p10 (M*5);have z1:=p10 (M*5+1);have z2:=p10 (M*5+2);have z3:=p10 (M*5+3);have z4:=p10 (M*5+4);have p7:¬g=q:=(fun e=>p6 e.symm);have P6:=qb p6;clear p1 p10 hown hgrow hat))
 all_goals
   go_wp2_with fail;go_end0;try rw[em.qcn _ P6.out]
   exact⟨rfl,HP1.out.1,HP1.out.2.1,HP1.out.2.2⟩
theorem qbB(n:NT)(s:Value)(h:RdX l v w0 rb A i G z vo ss w)(hc:cnt G≤1049600)(hd:Hd n)(hk:nt.ql (KP w0 rb A vo ss) w n.kids s):
   Calls Tryz.prog 98 #[.pointer (some ⟨rb,0,none⟩),.agg #[.int .i64 n.kind,.int .i64 n.at_,.int .i64 n.num,.string ⟨n.name.toArray⟩,s]] w (fun e w'=>e=.returned (.tuple #[])∧Rd l v w0 rb A i (qkV n G) (qos n G z) w'∧qF A w w'∧w.heap.size≤w'.heap.size):=by
 cases G with
 |nil=>exact qnD n s h hd hk
 |cons f G=>exact qmq f n s h hc hd hk
end Go.Proofs.YtdndfifkfjoffaaGreatDoor.pm.sx
namespace Go.Proofs.YtdndfifkfjoffaaGreatDoor.nt
open Go Go.RowKit
section
variable{P:Program}{OP OH:Array Oper}{C:World→Prop}{Q:Exit→Act→World→Prop}{n:Nat}{t:Oper}
structure qek(OP OH:Array Oper)(n:Nat)(t:Oper):Prop where
 sizeP:OP.size=n+1
 sizeH:OH.size=n
 same:∀i,i<n→OP[i]?=OH[i]?
 back:∀(i:Nat) (o:Oper),OH[i]?=some o→∀e∈o.after,Region.binds .any e=true→e.on<i
 guard:∀(i:Nat) (o:Oper),OH[i]?=some o→∀(g:Nat) (b:Bool),o.guard=some (g,b)→g<n
 last:OP[n]?=some t
 free:t.guard=none
 tback:∀e∈t.after,Region.binds .any e=true→e.on<n
 all:∀i,i<n→∃e∈t.after,Region.binds .any e=true∧e.on=i
theorem qek.wanted(T:qek OP OH n t){i:Nat}{o:Oper}(hi:OH[i]?=some o)(a:Act):Region.wanted o (yielded OP a.tmps)=Region.wanted o (yielded OH a.tmps):=by
 unfold Region.wanted
 cases hg:o.guard with
 |none=>rfl
 |some gb=>
   obtain⟨g,b⟩:=gb;have:=T.guard i o hi g b hg;simp only[yielded];rw[T.same g this]
theorem qek.one(T:qek OP OH n t){listed:Array Bool}(_:listed.size=n+1){i:Nat}(h:i∈Region.ready .any OP listed):i<n∨i=n:=by
 obtain⟨_,o,ho,_⟩:=mem_ready.1 h;have:=(Array.getElem?_eq_some_iff.1 ho).1;have:=T.sizeP;omega
theorem qek.fin(T:qek OP OH n t){listed:Array Bool}(hz:listed.size=n+1)(hn:listed.getD n true=false)(ha:∀i,i<n→listed.getD i true=true){k:Nat}{a:Act}{w:World}(h:t.wp P a w (fun a' w'=>Q .normal a' w') Q):wpAny P .any OP Q (k+1) listed a w:=by
 have hr:n∈Region.ready .any OP listed:=by
   refine mem_ready.2 ⟨hn,t,T.last,fun e he hb=>?_⟩;have hlt:=T.tback e he hb;have h3:=ha e.on hlt;have l2:e.on<listed.size:=by omega
   simp only[Array.getD_eq_getD_getElem?,Array.getElem?_eq_getElem l2,Option.getD_some]at h3 ⊢;exact h3
 have hnone:∀i,i∈Region.ready .any OP (listed.setIfInBounds n true)→False:=fun i hi=>by
   have hd:=(mem_ready.1 hi).1;rcases T.one (by rw[Array.size_setIfInBounds];exact hz) hi with h1|h1
   · rw[getD_set_ne true (by omega),ha i h1]at hd;cases hd
   · subst h1;rw[Array.getD_eq_getD_getElem?,Array.getElem?_setIfInBounds_self_of_lt (by omega)]at hd;simp at hd
 have hnil:Region.ready .any OP (listed.setIfInBounds n true)=[]:=List.eq_nil_iff_forall_not_mem.2 hnone;refine⟨fun h0=>absurd hr (by rw[h0];exact List.not_mem_nil),fun i hi=>?_⟩;rcases T.one hz hi with h1|h1
 · have hd:=(mem_ready.1 hi).1;rw[ha i h1]at hd;cases hd
 · subst h1;unfold wpOp;rw[T.last];simp only;have hw:Region.wanted t (yielded OP a.tmps)=true:=by unfold Region.wanted;rw[T.free]
   rw[if_pos hw];refine Or.inl (Oper.wp_mono (fun a' w' hq=>?_) h)
   cases k with
   |zero=>exact⟨hnil,hq⟩
   |succ k=>exact⟨fun _=>hq,fun i hi=>(hnone i hi).elim⟩
end
end Go.Proofs.YtdndfifkfjoffaaGreatDoor.nt
namespace Go.Proofs.YtdndfifkfjoffaaGreatDoor.nt
open Go.RowKit mem wd lx
open vt (I64 qft qt qv qad)
theorem qeb{w:World}{G:Nat→Prop}{t u:NT}{s r:Value}{N:Nat}(hN:N=w.heap.size)(hd:Hd t)(hd2:Hd u)(hk:ql G w t.kids s)(hk2:ql G w u.kids r)(hG:G N):
   ql G (w.alloc (.cells #[.int .i64 t.kind,.int .i64 t.at_,.int .i64 t.num,.string ⟨t.name.toArray⟩,s,.int .i64 u.kind,.int .i64 u.at_,.int .i64 u.num,.string ⟨u.name.toArray⟩,r] qi)) [t,u] (.slice (some ⟨N,0,none⟩) 2 2):=by
 have hbx:Box (w.alloc (.cells #[.int .i64 t.kind,.int .i64 t.at_,.int .i64 t.num,.string ⟨t.name.toArray⟩,s,.int .i64 u.kind,.int .i64 u.at_,.int .i64 u.num,.string ⟨u.name.toArray⟩,r] qi)) N qi _:=Box.new _ _ _ _ hN;have hb:∀o,Below w.heap.size w (w.alloc o):=fun o=>qd.alloc qe _;refine⟨_,_,rfl,⟨by simp,(fun h=>by cases h),by simp⟩,fun _=>⟨N,0,rfl,hG,qc1 fun k hk3=>?_⟩⟩
 match k,hk3 with
 |0,_=>exact⟨hd,hbx.cell 0,hbx.cell 1,hbx.cell 2,hbx.cell 3,s,hbx.cell 4,hk.below (hb _)⟩
 |1,_=>exact⟨hd2,hbx.cell 5,hbx.cell 6,hbx.cell 7,hbx.cell 8,r,hbx.cell 9,hk2.below (hb _)⟩
 |k+2,h=>simp at h;omega
end Go.Proofs.YtdndfifkfjoffaaGreatDoor.nt
namespace Go.Proofs.YtdndfifkfjoffaaGreatDoor.pm
open Go.RowKit wd lx nt ne mem
open vt (I64)
abbrev qoQ:TypeId:=34
abbrev Z7:Array Value:=#[.int .i64 0,.int .i64 0,.int .i64 0,.string ⟨#[]⟩,.slice none 0 0,.int .i64 0,.bool false]
theorem c5{w:World}{g:Nat}{t:TypeId}{a b c d e:Value}(h:Box w g t #[a,b,c,d,e]):
   (w.cell? ⟨g,0,none⟩=some a∧w.cell? ⟨g,1,none⟩=some b∧w.cell? ⟨g,2,none⟩=some c∧w.cell? ⟨g,3,none⟩=some d∧w.cell? ⟨g,4,none⟩=some e)∧
   (w.frozen? ⟨g,0,none⟩=false∧w.frozen? ⟨g,1,none⟩=false∧w.frozen? ⟨g,2,none⟩=false∧w.frozen? ⟨g,3,none⟩=false∧w.frozen? ⟨g,4,none⟩=false):=
 ⟨⟨h.cell 0,h.cell 1,h.cell 2,h.cell 3,h.cell 4⟩,h.frozen 0,h.frozen 1,h.frozen 2,h.frozen 3,h.frozen 4⟩
theorem c4{w:World}{g:Nat}{t:TypeId}{a b c d:Value}(h:Box w g t #[a,b,c,d]):
   (w.cell? ⟨g,0,none⟩=some a∧w.cell? ⟨g,1,none⟩=some b∧w.cell? ⟨g,2,none⟩=some c∧w.cell? ⟨g,3,none⟩=some d):=
 ⟨h.cell 0,h.cell 1,h.cell 2,h.cell 3⟩
structure Fr(l:List Tk)(v:Value)(w:World)(R:Nat)(w':World):Prop where
 box:Box w' R qoQ Z7
 src0:Src l v w
 low:Below w.heap.size w w'
 hR:w.heap.size≤R
theorem Fr.src{l:List Tk}{v:Value}{w w1:World}{R:Nat}(h:Fr l v w R w1):Src l v w1:=h.src0.on h.low
theorem Fr.on{l:List Tk}{v:Value}{w w1 w2:World}{R:Nat}(h:Fr l v w R w1)(hb:Below w1.heap.size w1 w2):Fr l v w R w2:=⟨h.box.on hb,h.src0,h.low.trans (hb.mono h.low.size),h.hR⟩
theorem Fr.grow{l:List Tk}{v:Value}{w w1 w2:World}{R:Nat}{row:Option Nat}(h:Fr l v w R w1)(hg:w1.grownBy w2 row)(hr:∀k,row=some k→w.heap.size≤k∧k≠R):Fr l v w R w2:=
 ⟨h.box.grown hg (fun e=>(hr R e.symm).2 rfl),h.src0,h.low.grown hg h.low.size (fun k hk=>(hr k hk).1),h.hR⟩
theorem Fr.set{l:List Tk}{v:Value}{w w1:World}{R O i:Nat}(h:Fr l v w R w1)(hO:w.heap.size≤O)(hRO:R≠O)(x:Value):Fr l v w R (w1.setCell ⟨O,i,none⟩ x):=
 ⟨h.box.far hRO x,h.src0,h.low.setCell hO x,h.hR⟩
end Go.Proofs.YtdndfifkfjoffaaGreatDoor.pm
namespace Go.Proofs.YtdndfifkfjoffaaGreatDoor.nt
open Go.RowKit mem wd lx
open vt (I64 qft qt qv qad)
def qP(B:Nat)(A:Nat→Prop)(w:World)(l:List NT)(v:Value):Prop:=∃vs,qI (fun b=>B≤b∧some b≠v.ownBlock∧¬A b) w l vs∧w.ownsRow B qi 5 v l.length vs∧∀k,v.ownBlock=some k→¬A k
theorem qP.of{B:Nat}{A:Nat→Prop}{w:World}{l:List NT}{v:Value}(h:qdy B w l v)(hA:∀b,A b→w.heap.size≤b):qP B A w l v:=by
 obtain⟨vs,hv,ho⟩:=h
 have h1:qI (fun b=>B≤b∧some b≠v.ownBlock∧¬A b) w l vs:=hv.carry (by
   intro b o u hb hc;have h2:b<w.heap.size:=World.block_lt_of_cell? _ _ hc;exact⟨⟨hb.1,hb.2,fun h=>by have:=hA b h;omega⟩,hc⟩)
 exact⟨vs,h1,ho,fun k hk h=>by have:=hA k h;have:=(ho.lt k hk).2;omega⟩
theorem qP.form{B:Nat}{A:Nat→Prop}{w:World}{l:List NT}{v:Value}(h:qP B A w l v):∃A c,v=.slice A l.length c:=qt h.choose_spec.2.1
theorem qP.below{B:Nat}{A:Nat→Prop}{w w':World}{l:List NT}{v:Value}(h:qP B A w l v)(hb:Below w.heap.size w w'):qP B A w' l v:=by
 obtain⟨vs,hv,ho,hk⟩:=h;exact⟨vs,hv.below hb,qv ho hb,hk⟩
theorem qP.grow{B p:Nat}{A:Nat→Prop}{w w':World}{l:List NT}{v:Value}(h:qP B A w l v)(hg:w.grownBy w' (some p))(hp:p<B):qP B A w' l v:=by
 obtain⟨vs,hv,ho,hk⟩:=h;refine⟨vs,hv.keep fun b o hb hlt=>?_,qeu ho fun k hk=>?_,hk⟩
 · exact World.cell?_of_block (hg.block b hlt (by simpa using(by omega:b≠p)))
 · have:=ho.lt k hk;exact hg.block k this.2 (by simpa using(by omega:k≠p))
theorem qP.set{B Z i:Nat}{A:Nat→Prop}{w:World}{l:List NT}{v:Value}(h:qP B A w l v)(hZ:A Z)(x:Value):qP B A (w.setCell ⟨Z,i,none⟩ x) l v:=by
 obtain⟨vs,hv,ho,hk⟩:=h;have hh:∀k,k≠Z→(w.setCell ⟨Z,i,none⟩ x).heap[k]?=w.heap[k]?:=fun k hk=>Below.heap_setCell w ⟨Z,i,none⟩ x k hk;exact⟨vs,hv.keep fun b o hb hlt=>World.cell?_of_block (hh b fun e=>hb.2.2 (e▸hZ)),qeu ho fun k hk2=>hh k fun e=>hk k hk2 (e▸hZ),hk⟩
theorem qP.kids{B:Nat}{A:Nat→Prop}{w:World}{l:List NT}{v:Value}(h:qP B A w l v):ql (fun b=>B≤b) w l v:=by
 obtain⟨vs,hv,ho,_⟩:=h;exact qgf vs (hv.mono fun b hb=>hb.1) ho
theorem qP.lt{B:Nat}{A:Nat→Prop}{w:World}{l:List NT}{v:Value}(h:qP B A w l v):∀k,v.ownBlock=some k→B≤k∧k<w.heap.size:=fun k hk=>h.choose_spec.2.1.lt k hk
end Go.Proofs.YtdndfifkfjoffaaGreatDoor.nt
namespace Go.Proofs.YtdndfifkfjoffaaGreatDoor.pm
open Go.RowKit wd lx nt ne mem
open vt (I64 qft qt qv qad)
theorem qy{A:Nat→Prop}{wr:World}{ops:Array Oper}{rest:List Oper}{o:Oper}{a:Act}{Q:Exit→Act→World→Prop}(hgd:o.guard=none)(s x:Operand)
   (ho:o.op=.call {callee:=.builtin .append,args:=#[s,x],argTypes:=#[27,27]})(B n:Nat)(l:List NT)(t:NT)(v sk:Value)(H:Nat)
   (hs:a.eval s=v)(hx:a.eval x=.slice (some ⟨H,0,none⟩) 1 1)(hl:qP B A wr l v)(hd:Hd t)(hk:nt.ql (fun b=>B≤b∧some b≠v.ownBlock∧¬A b) wr t.kids sk)(hA:∀b,A b→b<wr.heap.size)(hBr:B≤wr.heap.size)(hn:n=l.length)(hlen:n≤1099511627776)(hH:H=wr.heap.size)
   (h:∀A' c' w',qP B A w' (l++[t]) (.slice A' (n+1) c')→wr.grownBy w' v.ownBlock→(∀k,(Value.slice A' (n+1) c').ownBlock=some k→v.ownBlock=some k∨wr.heap.size≤k)→wpList Tryz.prog ops Q rest (a.put o.dst (.slice A' (n+1) c')) w'):
   wpList Tryz.prog ops Q (o::rest) a (wr.alloc (.cells #[.int .i64 t.kind,.int .i64 t.at_,.int .i64 t.num,.string ⟨t.name.toArray⟩,sk] qi)):=by
 obtain⟨i0,hi,hz0,hz1,hz2⟩:=info_parts qcX;obtain⟨vs,hv,hown,hav⟩:=hl;subst hH;obtain⟨Ak,ck,hsk,_⟩:=hk.form;have hbx:Box (wr.alloc (.cells #[.int .i64 t.kind,.int .i64 t.at_,.int .i64 t.num,.string ⟨t.name.toArray⟩,sk] qi)) wr.heap.size qi _:=Box.new _ _ _ _ rfl;have hba:Below wr.heap.size wr (wr.alloc (.cells #[.int .i64 t.kind,.int .i64 t.at_,.int .i64 t.num,.string ⟨t.name.toArray⟩,sk] qi)):=qd.alloc qe _;refine qad hgd s x 27 ho B qi i0 (.agg #[.int .i64 0,.int .i64 0,.int .i64 0,.string ⟨#[]⟩,.slice none 0 0]) 5 64 Tryz.underlying27 hi hz0 hz1 hz2 rfl (by decide) v l.length vs hs (hown.alloc _) ⟨wr.heap.size,0,none⟩ 1 1 [.int .i64 t.kind,.int .i64 t.at_,.int .i64 t.num,.string ⟨t.name.toArray⟩,sk] hx rfl (fun j u hu=>?_) ?_ (by unfold maxLen;omega) (by omega) (by simp;omega) ?_
 · rw[vt.qaI,Nat.zero_add,hbx.cell j];simpa using hu
 · intro u hu;simp only[List.mem_cons,List.mem_nil_iff,or_false]at hu;rcases hu with rfl|rfl|rfl|rfl|rfl
   · rfl
   · rfl
   · rfl
   · rfl
   · rw[hsk];rfl
 · intro v' w' h1 h2 h3;obtain⟨A2,c2,rfl⟩:=qt h1;subst hn;have hkeep:∀k,k<wr.heap.size→some k≠v.ownBlock→w'.heap[k]?=wr.heap[k]?:=fun k hk1 hk2=>(h2.block k (by simp;omega) hk2).trans (hba.block k hk1);refine h A2 c2 w' ⟨vs++[.int .i64 t.kind,.int .i64 t.at_,.int .i64 t.num,.string ⟨t.name.toArray⟩,sk],?_,by rw[List.length_append];exact h1,fun k hk2 ha=>?_⟩ ?_ (fun k hk2=>?_)
   · have hv2:qI (fun b=>B≤b∧some b≠v.ownBlock∧¬A b) wr (l++[t]) (vs++[.int .i64 t.kind,.int .i64 t.at_,.int .i64 t.num,.string ⟨t.name.toArray⟩,sk]):=hv.append (by rw[qI];exact⟨sk,[],rfl,hd,hk,by rw[qI]⟩);refine hv2.carry fun b o' u hb hc=>?_;have hlt:b<wr.heap.size:=World.block_lt_of_cell? _ _ hc;refine⟨⟨hb.1,fun e=>?_,hb.2.2⟩,(World.cell?_of_block (hkeep b hlt hb.2.1)).trans hc⟩;rcases h3 b e.symm with e2|e2
     · exact hb.2.1 e2.symm
     · simp at e2;omega
   · rcases h3 k hk2 with e2|e2
     · exact hav k e2 ha
     · have:=hA k ha;simp at e2;omega
   · exact⟨h2.os.trans hba.os,h2.tape.trans hba.tape,h2.output.trans hba.output,Nat.le_trans hba.size h2.size,hkeep⟩
   · rcases h3 k hk2 with e2|e2
     · exact Or.inl e2
     · simp at e2;exact Or.inr (by omega)
theorem qlZ{B:Nat}{A:Nat→Prop}{w:World}{l:List NT}{v:Value}(h:qP B A w l v):nt.ql (fun b=>B≤b∧¬A b) w l v:=by
 obtain⟨vs,hv,ho,hav⟩:=h;have h1:=ho.1;rcases ho.2 with⟨hs,hn⟩|⟨g,cap,cur,hs,hb,hg',hnc,hcm,hcs,htake⟩
 · exact⟨none,0,by rw[hs,hn],⟨by omega,fun _=>rfl,by omega⟩,fun h=>by omega⟩
 · refine⟨_,cap,hs,⟨by unfold maxLen at hcm;omega,(fun h=>by cases h),hnc⟩,fun h=>⟨g,0,rfl,⟨hb,hav g (by rw[hs];rfl)⟩,qd6 (hv.mono fun b hb=>⟨hb.1,hb.2.2⟩) fun j u hu=>?_⟩⟩;rw[Nat.zero_add,cell_of_row w g j cur qi (0,0) hg'];rw[←htake,List.getElem?_take]at hu;split at hu
   · simpa using hu
   · cases hu
theorem qmj{B Z:Nat}{A:Nat→Prop}{w:World}{l:List NT}{v:Value}(h:qP B A w l v)(hZ:A Z∨w.heap.size≤Z):some Z≠v.ownBlock:=fun e=>by
 rcases hZ with hZ|hZ
 · exact h.choose_spec.2.2 Z e.symm hZ
 · have:=(h.lt Z e.symm).2;omega
theorem Fr.five{l:List Tk}{v:Value}{w w1:World}{R O:Nat}(h:Fr l v w R w1)(hO:w.heap.size≤O)(hRO:R≠O)(a b c d e:Value):Fr l v w R (five w1 O a b c d e):=
 ((((h.set hO hRO a).set hO hRO b).set hO hRO c).set hO hRO d).set hO hRO e
end Go.Proofs.YtdndfifkfjoffaaGreatDoor.pm
namespace Go.Proofs.YtdndfifkfjoffaaGreatDoor.pm.sx
open Go.RowKit wd lx nt ne pm mem
open vt (I64 qft qt qv qZ qee Typ qc6)
variable{l:List Tk}{v:Value}{w0:World}{rb:Nat}{A A' D:Nat→Prop}{i j:Int}{G:List NT}{z:Option NT}{vo:Value}{ss:List Value}{w w' X Y:World}
structure Fx(l:List Tk)(v:Value)(w0:World)(rb:Nat)(A A':Nat→Prop)(w:World)(i:Int)(G:List NT)(z:Option NT)(X:World):Prop where
 rd:Rd l v w0 rb (Up A w X) i G z X
 sz:w.heap.size≤X.heap.size
 keep:qF A' w X
 sub:∀b,A' b→A b
 ap:∀b,A b→w0.heap.size≤b∧b<w.heap.size
 lt:rb<w.heap.size
theorem Fx.start(h:Rd l v w0 rb A i G z w)(hA:∀b,A' b→A b):Fx l v w0 rb A A' w i G z w:=
 ⟨h.mono fun b q=>q.elim id fun q=>by omega,Nat.le_refl _,qF.refl _ _,hA,h.ap,h.lt⟩
theorem qjO(h1:w.heap.size≤X.heap.size):∀b,Up A w Y b→Up (Up A w X) X Y b:=fun b q=>by
 rcases q with q|q
 · exact Or.inl (Or.inl q)
 · by_cases hb:b<X.heap.size
   · exact Or.inl (Or.inr ⟨q.1,hb⟩)
   · exact Or.inr ⟨by omega,q.2⟩
theorem Fx.held(h:Fx l v w0 rb A A' w i G z X)(hk:∀k,k<X.heap.size→(¬Up A w X k∨A' k)→Y.heap[k]?=X.heap[k]?)(low:Below w0.heap.size w0 Y)(hs:X.heap.size≤Y.heap.size):Fx l v w0 rb A A' w i G z Y:=
 ⟨(h.rd.held (fun k h1 h2=>hk k h1 (Or.inl h2)) low hs).mono (qjO h.sz),Nat.le_trans h.sz hs,fun b q=>(hk b (Nat.lt_of_lt_of_le (h.ap b (h.sub b q)).2 h.sz) (Or.inr q)).trans (h.keep b q),h.sub,h.ap,h.lt⟩
theorem Fx.on(h:Fx l v w0 rb A A' w i G z X)(hb:Below X.heap.size X Y):Fx l v w0 rb A A' w i G z Y:=
 h.held (fun k h1 _=>hb.block k h1) (h.rd.low.trans (hb.mono h.rd.low.size)) hb.size
theorem Fx.moved(h:Fx l v w0 rb A A' w i G z X)(m:Mv v rb i j X Y)(hj:I64 j):Fx l v w0 rb A A' w j G z Y:=
 ⟨(h.rd.moved m hj).mono (qjO h.sz),Nat.le_trans h.sz m.grow.size,fun b q=>(m.grow.block b (Nat.lt_of_lt_of_le (h.ap b (h.sub b q)).2 h.sz) fun e=>by injection e with e;exact h.rd.not (Or.inl (by rw[←e];exact h.sub b q))).trans (h.keep b q),h.sub,h.ap,h.lt⟩
theorem Fx.rs(h:Fx l v w0 rb A A' w i G z X):Rs l v w0 rb i X:=h.rd.rs
theorem Fx.upA(h:Fx l v w0 rb A A' w i G z X):∀b,A' b→Up A w X b:=fun b q=>Or.inl (h.sub b q)
theorem Fx.set(h:Fx l v w0 rb A A' w i G z X){O k:Nat}(hO:w.heap.size≤O)(u:Value):Fx l v w0 rb A A' w i G z (X.setCell ⟨O,k,none⟩ u):=by
 have h0:w0.heap.size≤O:=by have:=h.rd.low.size;have:=h.lt;have:=h.rd.hB;omega
 by_cases hlt:O<X.heap.size
 · refine h.held (fun k2 h1 h2=>Below.heap_setCell X ⟨O,k,none⟩ u k2 fun e=>?_) (h.rd.low.setCell (p:=⟨O,k,none⟩) h0 _) (by simp[World.setCell]);have e:k2=O:=e;subst e;rcases h2 with h2|h2
   · exact h2 (Or.inr ⟨hO,hlt⟩)
   · have:=(h.ap k2 (h.sub k2 h2)).2;omega
 · refine h.held (fun k2 h1 _=>Below.heap_setCell X ⟨O,k,none⟩ u k2 fun e=>?_) (h.rd.low.setCell (p:=⟨O,k,none⟩) h0 _) (by simp[World.setCell]);have e:k2=O:=e;omega
def qw(l:List Tk)(v:Value)(w0:World)(rb:Nat)(A':Nat→Prop)(w:World)(o:Out)(e:Ending)(w':World):Prop:=
 match o with
 |.go s=>e=.returned (.bool true)∧Rd l v w0 rb A' s.i s.G s.z w'∧qF A' w w'∧w.heap.size≤w'.heap.size
 |.no j=>e=.returned (.bool false)∧Rs l v w0 rb j w'∧qF A' w w'∧w.heap.size≤w'.heap.size
def Out.ok:Out→Bool
 |.go _=>true
 |.no _=>false
theorem qw.form{o:Out}{e:Ending}(h:qw l v w0 rb A' w o e w'):∃b,e=.returned (.bool b)∧qw l v w0 rb A' w o (.returned (.bool b)) w':=by
 cases o with
 |go s=>obtain⟨rfl,h⟩:=h;exact⟨true,rfl,rfl,h⟩
 |no j=>obtain⟨rfl,h⟩:=h;exact⟨false,rfl,rfl,h⟩
theorem qw.of{o:Out}{e:Ending}(h:qw l v w0 rb A' X o e w')(hk:qF A' w X)(hs:w.heap.size≤X.heap.size):qw l v w0 rb A' w o e w':=by
 cases o with
 |go s=>obtain⟨h1,h2,h3,h4⟩:=h;exact⟨h1,h2,hk.trans h3,Nat.le_trans hs h4⟩
 |no j=>obtain⟨h1,h2,h3,h4⟩:=h;exact⟨h1,h2,hk.trans h3,Nat.le_trans hs h4⟩
theorem qw.drew{o:Out}{e:Ending}(h:qw l v w0 rb A' w o e w'):qw l v w0 rb A' w o e w'.drew:=by
 have hb:Below w'.heap.size w' w'.drew:=qd.drew
 cases o with
 |go s=>obtain⟨h1,h2,h3,h4⟩:=h;exact⟨h1,(h2.on hb).mono fun b q=>Or.inl q,h3,h4⟩
 |no j=>obtain⟨h1,h2,h3,h4⟩:=h;exact⟨h1,h2.on hb,h3,h4⟩
theorem Fx.no(h:Fx l v w0 rb A A' w i G z X):qw l v w0 rb A' w (.no i) (.returned (.bool false)) X:=⟨rfl,h.rs,h.keep,h.sz⟩
theorem Fx.out(h:Fx l v w0 rb A A' w i G z X):qw l v w0 rb A' w (.go ⟨i,G,z⟩) (.returned (.bool true)) X:=⟨rfl,h.rd.mono h.upA,h.keep,h.sz⟩
theorem Fx.of{o:Out}{e:Ending}(h:Fx l v w0 rb A A' w i G z X)(q:qw l v w0 rb A' X o e w'):qw l v w0 rb A' w o e w':=q.of h.keep h.sz
def Dn(A A':Nat→Prop)(w:World)(b:Nat):Prop:=b<w.heap.size∧¬(A b∧¬A' b)
theorem qbP{B:Nat}{D D':Nat→Prop}{w:World}{ns:List NT}{s:Value}(h:qP B D w ns s)(hD:∀b,b<w.heap.size→D' b→D b):qP B D' w ns s:=by
 obtain⟨vs,hv,ho,hk⟩:=h;exact⟨vs,hv.carry fun b o u q hc=>⟨⟨q.1,q.2.1,fun e=>q.2.2 (hD b (World.block_lt_of_cell? _ _ hc) e)⟩,hc⟩,ho,fun k e q=>hk k e (hD k (ho.lt k e).2 q)⟩
theorem qaZ(B:Nat)(D:Nat→Prop)(w:World):qP B D w [] (.slice none 0 0):=⟨[],by rw[qI],World.ownsRow_nil _ _ _ _,fun k e=>by cases e⟩
theorem Fx.own(h:Fx l v w0 rb A A' w i G z X){B:Nat}{ns:List NT}{s:Value}(hD:∀b,Dn A A' w b→D b)(ho:qP B D X ns s):qP B (Dn (Up A w X) A' X) X ns s:=
 qbP ho fun b hb q=>by
   refine hD b ?_;by_cases hlt:b<w.heap.size
   · exact⟨hlt,fun e=>q.2 ⟨Or.inl e.1,e.2⟩⟩
   · exact absurd ⟨Or.inr ⟨by omega,hb⟩,fun e=>hlt (h.ap b (h.sub b e)).2⟩ q.2
theorem qjF{B:Nat}{ns:List NT}{s:Value}(h:qP B D X ns s)(m:Mv v rb i j X Y)(hD:D rb):qP B D Y ns s:=by
 obtain⟨vs,hv,ho,hk⟩:=h;refine⟨vs,hv.carry fun b o u q hc=>⟨q,(World.cell?_of_block (w:=X) (w':=Y) (a:=⟨b,o,none⟩) (m.grow.block b (World.block_lt_of_cell? _ _ hc) fun e=>?_)).trans hc⟩,qZ ho fun k e=>m.grow.block k (ho.lt k e).2 fun e2=>?_,hk⟩
 · injection e with e;exact q.2.2 (by rw[e];exact hD)
 · injection e2 with e2;exact hk k e (by rw[e2];exact hD)
theorem Fx.dn(h:Fx l v w0 rb A A' w i G z X):Dn A A' w rb:=⟨h.lt,fun q=>h.rd.not (Or.inl q.1)⟩
theorem Fx.app{O:Nat}{a b c d:Value}{sl sl':Value}{ns ns':List NT}{w9:World}(h:Fx l v w0 rb A A' w i G z X)(hx:Box X O qi #[a,b,c,d,sl])(ho:qP w0.heap.size D X ns sl)(hD:∀b,Dn A A' w b→D b)(hDO:D O)(hO:w.heap.size≤O)
   (ho9:qP w0.heap.size D w9 ns' sl')(hg9:X.grownBy w9 sl.ownBlock):Box (w9.setCell ⟨O,4,none⟩ sl') O qi #[a,b,c,d,sl']∧Fx l v w0 rb A A' w i G z (w9.setCell ⟨O,4,none⟩ sl')∧qP w0.heap.size D (w9.setCell ⟨O,4,none⟩ sl') ns' sl'∧Box w9 O qi #[a,b,c,d,sl]:=by
 have hne:∀k,sl.ownBlock=some k→¬D k∧w0.heap.size≤k:=fun k e=>⟨ho.choose_spec.2.2 k e,(ho.lt k e).1⟩;have hx9:Box w9 O qi #[a,b,c,d,sl]:=hx.grown hg9 fun e=>(hne O e.symm).1 hDO;have hb:=hx9.set 4 sl';have hlow9:Below w0.heap.size w0 w9:=h.rd.low.grown hg9 h.rd.low.size fun k e=>(hne k e).2
 have h9:Fx l v w0 rb A A' w i G z w9:=h.held (fun k h1 h2=>hg9.block k h1 fun e=>by
   have hn:=(hne k e.symm).1;have hnd:¬Dn A A' w k:=fun q=>hn (hD k q);rcases h2 with h2|h2
   · refine hnd ⟨?_,fun q=>h2 (Or.inl q.1)⟩;exact Nat.lt_of_not_le fun q=>h2 (Or.inr ⟨q,h1⟩)
   · exact hnd ⟨(h.ap k (h.sub k h2)).2,fun q=>q.2 h2⟩) hlow9 hg9.size
 exact⟨hb,h9.set hO _,ho9.set hDO _,hx9⟩
theorem Fx.far{O Z:Nat}{T:TypeId}{cs:Array Value}{sl sl':Value}{w9:World}(hz:Box X Z T cs)(hZO:Z≠O)(hg9:X.grownBy w9 sl.ownBlock)(hZ:sl.ownBlock≠some Z):Box (w9.setCell ⟨O,4,none⟩ sl') Z T cs:=(hz.grown hg9 fun e=>hZ e.symm).far hZO _
theorem qdp{f:NT}{s:Value}{N co:Nat}{Ao:Option Addr}{q cap:Nat}{V w3:World}{As:Option Addr}{nl cs:Nat}(h:RdX l v w0 rb A i G z (.slice Ao N co) ss V)(hA:∀b,A' b→A b)(hN:N=G.length)(hs:s=.slice As nl cs)(hd:Hd f)(ho:qP w0.heap.size (Dn A A' V) V f.kids s)
   (hown:w3.ownsRow w0.heap.size qi 5 (.slice (some ⟨q,0,none⟩) (N+1) cap) (N+1) (qag G ss++[.int .i64 0,.int .i64 0,.int .i64 0,.string ⟨#[]⟩,.slice none 0 0]))(hg:V.grownBy w3 (Value.slice Ao N co).ownBlock)(hat:(Value.slice Ao N co).ownBlock=some q∨q=V.heap.size):
   (Rd l v w0 rb A' i (f::G) z ((em.qa4 w3 q (N*5) (.int .i64 f.kind) (.int .i64 f.at_) (.int .i64 f.num) (.string ⟨f.name.toArray⟩) (.slice As nl cs)).setCell ⟨rb,2,none⟩ (.slice (some ⟨q,0,none⟩) (N+1) cap))∧qF A' V ((em.qa4 w3 q (N*5) (.int .i64 f.kind) (.int .i64 f.at_) (.int .i64 f.num) (.string ⟨f.name.toArray⟩) (.slice As nl cs)).setCell ⟨rb,2,none⟩ (.slice (some ⟨q,0,none⟩) (N+1) cap))∧V.heap.size≤((em.qa4 w3 q (N*5) (.int .i64 f.kind) (.int .i64 f.at_) (.int .i64 f.num) (.string ⟨f.name.toArray⟩) (.slice As nl cs)).setCell ⟨rb,2,none⟩ (.slice (some ⟨q,0,none⟩) (N+1) cap)).heap.size)∧
   (w3.cell? ⟨rb,2,none⟩=some (.slice Ao N co)∧w3.frozen? ⟨rb,2,none⟩=false)∧¬q=rb∧
   (w3.cell? ⟨q,N*5,none⟩=some (.int .i64 0)∧w3.cell? ⟨q,N*5+1,none⟩=some (.int .i64 0)∧w3.cell? ⟨q,N*5+2,none⟩=some (.int .i64 0)∧w3.cell? ⟨q,N*5+3,none⟩=some (.string ⟨#[]⟩)∧w3.cell? ⟨q,N*5+4,none⟩=some (.slice none 0 0))∧∀k,w3.frozen? ⟨q,k,none⟩=false:=by
 subst hs;have hat':(Value.slice Ao N co).ownBlock=some q∨V.heap.size≤q:=hat.imp id fun h=>by omega
 have hnO:∀k,(Value.slice Ao N co).ownBlock=some k→k≠rb:=fun k e=>(Typ.own h.opn e).ne h.typ (by decide)
 have hqr:¬q=rb:=by
   rintro rfl;rcases hat' with e|e
   · exact hnO _ e rfl
   · have:=h.lt;omega
 have hrk:w3.heap[rb]?=V.heap[rb]?:=hg.block rb h.lt fun e=>hnO rb e.symm rfl;have hol:(qag G ss).length=N*5:=by rw[qaY h.frs,hN]
 have c0:=hown.cellAt (N*5) (by omega);have c1:=hown.cellAt (N*5+1) (by omega);have c2:=hown.cellAt (N*5+2) (by omega);have c3:=hown.cellAt (N*5+3) (by omega);have c4:=hown.cellAt (N*5+4) (by omega);rw[List.getElem?_append_right (by omega),show N*5-(qag G ss).length=0 by omega]at c0;rw[List.getElem?_append_right (by omega),show N*5+1-(qag G ss).length=1 by omega]at c1;rw[List.getElem?_append_right (by omega),show N*5+2-(qag G ss).length=2 by omega]at c2;rw[List.getElem?_append_right (by omega),show N*5+3-(qag G ss).length=3 by omega]at c3;rw[List.getElem?_append_right (by omega),show N*5+4-(qag G ss).length=4 by omega]at c4;have o5:=(((((hown.stored (N*5) (.int .i64 f.kind)).1.stored (N*5+1) (.int .i64 f.at_)).1.stored (N*5+2) (.int .i64 f.num)).1.stored (N*5+3) (.string ⟨f.name.toArray⟩)).1.stored (N*5+4) (.slice As nl cs)).1;rw[em.qnI _ _ _ _ _ _ _ _ _ _ _ _ hol]at o5;have g5:=vt.qW (i:=N*5+4) (vt.qW (i:=N*5+3) (vt.qW (i:=N*5+2) (vt.qW (i:=N*5+1) (vt.qW (i:=N*5) hg hat' (.int .i64 f.kind)) hat' (.int .i64 f.at_)) hat' (.int .i64 f.num)) hat' (.string ⟨f.name.toArray⟩)) hat' (.slice As nl cs);obtain⟨n0,Al,kl,cl,hbx,hc2,hfz⟩:=h.cells;refine⟨?_,⟨(World.cell?_of_block (a:=⟨rb,2,none⟩) hrk).trans hc2,(World.frozen?_of_block (a:=⟨rb,2,none⟩) hrk).trans (hfz 2)⟩,hqr,⟨c0,c1,c2,c3,c4⟩,fun k=>hown.frozenAt k⟩;obtain⟨xs,hv,hrow,hk⟩:=ho;have hin:∀b,b<V.heap.size→¬Dn A A' V b→A b∧¬A' b:=fun b h1 h2=>Classical.byContradiction fun e=>h2 ⟨h1,e⟩
 have p:=RdX.push (f:=f) (s:=.slice As nl cs) (vo':=.slice (some ⟨q,0,none⟩) (N+1) cap) (xs:=xs) (w4:=em.qa4 w3 q (N*5) (.int .i64 f.kind) (.int .i64 f.at_) (.int .i64 f.num) (.string ⟨f.name.toArray⟩) (.slice As nl cs)) h hA g5 (fun k hk2=>by
     have e:q=k:=by simpa [Value.ownBlock]using hk2
     rw[←e];exact hat') (by rw[←hN];exact o5) hrow (fun k e=>hin k (hrow.lt k e).2 (hk k e)) hd (hv.carry fun b o u q2 hc=>by
     have hlt:=World.block_lt_of_cell? _ _ hc;have hb:=hin b hlt q2.2.2;have ha:=h.ap b hb.1;exact⟨⟨⟨ha.1,hb.2,ha.2.2⟩,fun e=>q2.2.1 e.symm⟩,hc⟩)
 refine⟨⟨_,_,p.1⟩,p.2,?_⟩;have:=g5.size;rw[World.size_setCell];exact this
end Go.Proofs.YtdndfifkfjoffaaGreatDoor.pm.sx

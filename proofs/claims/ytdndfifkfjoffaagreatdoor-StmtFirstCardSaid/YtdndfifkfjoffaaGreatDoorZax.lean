/- The package's reader of statements looks at a name or a number, and reads a name. (and what it stands on) -/
import Derived.Test.YtdndfifkfjoffaaGreatDoorZag
import Derived.Test.YtdndfifkfjoffaaGreatDoorZak
import Derived.Test.YtdndfifkfjoffaaGreatDoorZav
import Derived.Test.YtdndfifkfjoffaaGreatDoorZaa
set_option maxRecDepth 100000
set_option maxHeartbeats 4000000
namespace Go.Proofs.YtdndfifkfjoffaaGreatDoor.pm.sx
open Go.RowKit wd lx nt ne pm
theorem qcI(t:Tk){k:Int}(hk:1≤k):qh [t] k=⟨0,0,0,[]⟩:=qeh (Or.inr (by simpa using hk))
theorem qiI{t:Tk}{k:Int}(hk:1≤k)(m:List UInt8):isM [t] k m=false:=by unfold isM;rw[qcI t hk];rfl
theorem qiJ{t:Tk}{k:Int}(hk:1≤k)(m:List UInt8):isW [t] k m=false:=by unfold isW;rw[qcI t hk];rfl
theorem qkc{t:Tk}{k:Int}(hk:1≤k)(G:List em.Frm):em.qJ [t] k G=.no k:=by
 unfold em.qJ;have h1:(qh [t] k).kind=0:=by rw[qcI t hk]
 rw[if_neg (by rw[qiI hk];decide),if_neg (by rw[qiI hk];decide),if_neg (by rw[qiI hk];decide),if_neg (by rw[qiJ hk];decide),if_neg (by rw[qiJ hk];decide),if_neg (by rw[h1];decide),if_neg (by rw[qiJ hk];decide),if_neg (by rw[qiJ hk];decide),if_neg (by rw[h1];decide)]
theorem qlN{t:Tk}{k:Int}(hk:1≤k)(q a:Int)(G:List em.Frm):em.qaO [t] k q a G=.no k:=by
 unfold em.qaO;rw[if_neg (by rw[qcI t hk];decide)]
theorem qnd{t:Tk}{k:Int}(hk:1≤k):em.qaV [t] k=.no k:=by
 have h:run [t] 1 .typ k=some (.no k):=by
   rw[qaF];simp only[qx];have h1:(qh [t] k).kind=0:=by rw[qcI t hk]
   rw[if_neg (by rw[h1];decide),if_neg (by rw[qiJ hk];decide),if_neg (by rw[qiJ hk];decide),if_neg (by rw[qiJ hk];decide),if_pos (qiI hk _)]
 obtain⟨r,hr⟩:=qa2 [t] .typ k;unfold em.qaV;rw[hr];exact qeY [t] hr h
inductive One(t:Tk):em.Out→Prop
 |want (f:em.Frm):t.kind≠1→t.kind≠2→One t (.go (.want 1 [f]))
 |no (j:Int):t.kind≠1→t.kind≠2→One t (.no j)
 |num:t.kind=2→One t (.go (.have_ 1 [] (.mk 10 t.at_ t.n [] [])))
 |name:t.kind=1→One t (.go (.have_ 1 [] (.mk 12 t.at_ 0 t.text [])))
 |flag (b:Int):t.kind≠1→t.kind≠2→One t (.go (.have_ 1 [] (.mk 11 t.at_ b [] [])))
theorem qjX(t:Tk):One t (em.qJ [t] 0 []):=by
 unfold em.qJ;have hM:∀m,isM [t] 0 m=true→t.kind=4:=fun m h=>em.qdj h;have hW:∀m,isW [t] 0 m=true→t.kind=3:=fun m h=>em.qbN h;by_cases h1:isM [t] 0 [40]=true
 · rw[if_pos h1];have:=hM _ h1;exact .want _ (by omega) (by omega)
 rw[if_neg h1];by_cases h2:isM [t] 0 [45]=true
 · rw[if_pos h2];have:=hM _ h2;exact .want _ (by omega) (by omega)
 rw[if_neg h2];by_cases h3:isM [t] 0 [33]=true
 · rw[if_pos h3];have:=hM _ h3;exact .want _ (by omega) (by omega)
 rw[if_neg h3];by_cases h4:isW [t] 0 qec=true
 · rw[if_pos h4];have:=hW _ h4;rw[qlN (by decide)];exact .no _ (by omega) (by omega)
 rw[if_neg h4];by_cases h5:isW [t] 0 qgP=true
 · rw[if_pos h5];have:=hW _ h5;rw[qnd (by decide)];exact .no _ (by omega) (by omega)
 rw[if_neg h5];by_cases h6:(qh [t] 0).kind=2
 · rw[if_pos h6];exact .num h6
 rw[if_neg h6];by_cases h7:isW [t] 0 qb4=true
 · rw[if_pos h7];have:=hW _ h7;exact .flag 1 (by omega) (by omega)
 rw[if_neg h7];by_cases h8:isW [t] 0 qbu=true
 · rw[if_pos h8];have:=hW _ h8;exact .flag 0 (by omega) (by omega)
 rw[if_neg h8];by_cases h9:(qh [t] 0).kind=1
 · rw[if_pos h9,if_neg (by rw[qiI (by decide)];decide)];exact .name h9
 rw[if_neg h9];exact .no _ h9 h6
theorem qd8{t:Tk}{n:NT}:em.qD [t] (.have_ 1 [] n)=.over n 1:=by
 rw[em.qD];rw[if_neg (by rw[qiI (by decide)];decide),if_neg (by rw[qiI (by decide)];decide),if_pos (by unfold em.qH em.sgn;rw[qcI t (by decide)];rfl)];rfl
inductive qg5(t:Tk):Res→Prop
 |no (j:Int):t.kind≠1→t.kind≠2→qg5 t (.no j)
 |num:t.kind=2→qg5 t (.node (.mk 10 t.at_ t.n [] []) 1)
 |name:t.kind=1→qg5 t (.node (.mk 12 t.at_ 0 t.text []) 1)
 |flag (b:Int):t.kind≠1→t.kind≠2→qg5 t (.node (.mk 11 t.at_ b [] []) 1)
theorem qje{t:Tk}{n m:NT}{j:Int}{G:List em.Frm}(h:em.qV [t] 0 (.have_ 1 [] n) (.have_ j G m)):j=1∧G=[]∧m=n:=by
 cases h with
 |refl=>exact⟨rfl,rfl,rfl⟩
 |step hd hs hr=>rw[qd8]at hs;cases hs
theorem qnc(t:Tk):qg5 t (exR [t] 0):=by
 obtain⟨f,r,hr,hs⟩:=em.qhA [t] 0;rw[qgv hr];have ho:=qjX t
 have key:∀{n:NT} {j:Int},(∃G n',em.qV [t] 0 (.want 0 []) (.have_ j G n')∧em.qD [t] (.have_ j G n')=.over n j)→∀m,em.qJ [t] 0 []=.go (.have_ 1 [] m)→j=1∧n=m:=by
   rintro n j ⟨G,n',h1,h2⟩ m hm
   cases h1 with
   |step hd hs hr=>
     have hs':em.qJ [t] 0 []=_:=hs;rw[hm]at hs';cases hs'
     obtain⟨rfl,rfl,rfl⟩:=qje hr;rw[qd8]at h2;cases h2
     exact⟨rfl,rfl⟩
 have fail:∀{j:Int},em.qbm [t] 0 (.want 0 []) j→∀m,em.qJ [t] 0 []=.go (.have_ 1 [] m)→False:=by
   rintro j ⟨s',h1,_,h3⟩ m hm
   cases h1 with
   |refl=>
     have h3':em.qJ [t] 0 []=_:=h3;rw[hm]at h3'
     cases h3'
   |step hd hs hr=>
     have hs':em.qJ [t] 0 []=_:=hs;rw[hm]at hs';cases hs'
     cases hr with
     |refl=>rw[qd8]at h3;cases h3
     |step hd2 hs2 hr2=>rw[qd8]at hs2;cases hs2
 have none_:∀{n:NT} {j:Int},(∃G n',em.qV [t] 0 (.want 0 []) (.have_ j G n')∧em.qD [t] (.have_ j G n')=.over n j)→(∀s,em.qJ [t] 0 []=.go s→∃G,s=.want 1 G)→False:=by
   rintro n j ⟨G,n',h1,h2⟩ hm
   cases h1 with
   |step hd hs hr=>
     obtain⟨G1,rfl⟩:=hm _ hs
     cases hr with
     |step hd2 hs2 hr2=>
       have hs2':em.qJ [t] 1 G1=_:=hs2;rw[qkc (by decide)]at hs2';cases hs2'
 cases r with
 |node n j=>
   have hs:∃G n',em.qV [t] 0 (.want 0 []) (.have_ j G n')∧em.qD [t] (.have_ j G n')=.over n j:=hs;generalize hb:em.qJ [t] 0 []=o at ho
   cases ho with
   |want f h1 h2=>exact(none_ hs fun s e=>by rw[hb]at e;cases e;exact⟨_,rfl⟩).elim
   |no k h1 h2=>exact(none_ hs fun s e=>by rw[hb]at e;cases e).elim
   |num h1=>obtain⟨rfl,rfl⟩:=key hs _ hb;exact .num h1
   |name h1=>obtain⟨rfl,rfl⟩:=key hs _ hb;exact .name h1
   |flag b h1 h2=>obtain⟨rfl,rfl⟩:=key hs _ hb;exact .flag b h1 h2
 |list ns j=>exact hs.elim
 |no j=>
   have hs:em.qbm [t] 0 (.want 0 []) j:=hs;generalize hb:em.qJ [t] 0 []=o at ho
   cases ho with
   |want f h1 h2=>exact .no _ h1 h2
   |no k h1 h2=>exact .no _ h1 h2
   |num h1=>exact(fail hs _ hb).elim
   |name h1=>exact(fail hs _ hb).elim
   |flag b h1 h2=>exact(fail hs _ hb).elim
end Go.Proofs.YtdndfifkfjoffaaGreatDoor.pm.sx
namespace Go.Proofs.YtdndfifkfjoffaaGreatDoor.pm.sx
open Go.RowKit wd lx nt ne pm mem
open vt (I64 qft qt qv qZ qee Typ)
variable{l:List Tk}{v:Value}{w0:World}{rb:Nat}{A A':Nat→Prop}{i j:Int}{G:List NT}{z:Option NT}{w w':World}
theorem qfJ(t:Tk)(k:Int):qh [t] k=t∨qh [t] k=⟨0,0,0,[]⟩:=by
 by_cases h0:k=0
 · subst h0;exact Or.inl rfl
 · by_cases h1:k<0
   · exact Or.inr (qeh (Or.inl h1))
   · exact Or.inr (qcI t (by omega))
def qis(t:Tk)(n:NT):Prop:=n.kids=[]∧((t.kind=1∧n=.mk 12 t.at_ 0 t.text [])∨(t.kind=2∧n=.mk 10 t.at_ t.n [] [])∨(t.kind≠1∧t.kind≠2∧n.kind≠12∧n.kind≠10))
theorem qjR{w1 U:World}{N:Nat}(h:Rs l v w0 rb i w1)(t:Tk)(ht:t=qh l i)(hN:N=w1.heap.size)(hU:U=w1.alloc (.cells #[.int .i64 t.kind,.int .i64 t.at_,.int .i64 t.n,.string ⟨t.text.toArray⟩] TkT)):
   Src [t] (.slice (some ⟨N,0,none⟩) 1 1) U∧qcP [t]:=by
 have hx:Box U N TkT #[.int .i64 t.kind,.int .i64 t.at_,.int .i64 t.n,.string ⟨t.text.toArray⟩]:=by rw[hU];exact Box.new _ _ _ _ hN
 have hz:∀k,I64 (qh [t] k).at_∧I64 (qh [t] k).n∧(qh [t] k).text.length≤281474976710656:=fun k=>by
   rcases qfJ t k with e|e
   · rw[e,ht];exact h.env.src.fair i
   · rw[e];exact⟨(by show I64 0;unfold I64;omega),(by show I64 0;unfold I64;omega),by show 0≤281474976710656;omega⟩
 refine⟨⟨⟨rfl,some ⟨N,0,none⟩,1,rfl,fun _=>⟨N,0,rfl,hx.lt,fun k u hu=>?_⟩⟩,by show 1≤1048576;omega,hz⟩,fun k=>?_,fun k=>?_⟩
 · rw[Nat.zero_add,hx.cell k];simpa [qav,tkV]using hu
 · rcases qfJ t k with e|e
   · rw[e,ht];exact h.env.good i
   · rw[e];exact⟨fun h=>absurd h (by decide),fun h=>absurd h (by decide)⟩
 · rcases qfJ t k with e|e
   · rw[e,ht];exact h.env.txt i
   · rw[e];show 0≤1048576;omega
theorem qiv{w1 U:World}{N:Nat}(h:Rs l v w0 rb i w1)(t:Tk)(ht:t=qh l i)(hN:N=w1.heap.size)(hU:U=w1.alloc (.cells #[.int .i64 t.kind,.int .i64 t.at_,.int .i64 t.n,.string ⟨t.text.toArray⟩] TkT)):
   Calls Tryz.prog 90 #[.slice (some ⟨N,0,none⟩) 1 1,.int .i64 0] U (fun e w'=>∃n As cs j k,e=.returned (.tuple #[.agg #[.int .i64 n.kind,.int .i64 n.at_,.int .i64 n.num,.string ⟨n.name.toArray⟩,.slice As 0 cs],.int .i64 j,.int .i64 k])∧nt.ql (fun b=>U.heap.size≤b) w' [] (.slice As 0 cs)∧qis t n∧Below U.heap.size U w'):=by
 obtain⟨hs,hf⟩:=qjR h t ht hN hU;have hb:Below w1.heap.size w1 U:=by rw[hU];exact qd.alloc qe _
 obtain⟨f,r,h1,h2⟩:=qen 0 hs hf (by unfold I64;omega) (h.on hb).ld;have ha:=qnc t;rw[qgv h1]at ha;refine h2.mono fun e w' q=>?_
 cases ha with
 |no j q1 q2=>
   obtain⟨rfl,hb⟩:=q
   exact⟨.mk 0 0 0 [] [],none,0,j,1,rfl,⟨none,0,rfl,⟨by simp,fun _=>rfl,by simp⟩,fun h=>absurd h (by simp)⟩,⟨rfl,Or.inr (Or.inr ⟨q1,q2,by show ¬(0:Int)=12;decide,by show ¬(0:Int)=10;decide⟩)⟩,hb⟩
 |num q1=>
   obtain⟨s,rfl,hk,hd,hb⟩:=q;obtain⟨As,cs,rfl,_⟩:=hk.form
   exact⟨_,As,cs,1,0,rfl,hk,⟨rfl,Or.inr (Or.inl ⟨q1,rfl⟩)⟩,hb⟩
 |name q1=>
   obtain⟨s,rfl,hk,hd,hb⟩:=q;obtain⟨As,cs,rfl,_⟩:=hk.form
   exact⟨_,As,cs,1,0,rfl,hk,⟨rfl,Or.inl ⟨q1,rfl⟩⟩,hb⟩
 |flag b q1 q2=>
   obtain⟨s,rfl,hk,hd,hb⟩:=q;obtain⟨As,cs,rfl,_⟩:=hk.form;exact⟨_,As,cs,1,0,rfl,hk,⟨rfl,Or.inr (Or.inr ⟨q1,q2,by show ¬(11:Int)=12;decide,by show ¬(11:Int)=10;decide⟩)⟩,hb⟩
theorem qcj{P:Nat→Prop}{w':World}{A:Option Addr}{c:Nat}(h:nt.ql P w [] (.slice A 0 c))(Q:Nat→Prop):nt.ql Q w' [] (.slice A 0 c):=by
 obtain⟨A',c',e,h1,_⟩:=h;exact⟨A',c',e,h1,fun h=>absurd h (by simp)⟩
theorem qkI{fn:Func}{p:Nat}(hr:fn.results=#[ResultVar.cell p qi]){tm:Array Value}{w2:World}{R:Nat}{a b c d e:Value}(h4:tm.getD p undef=.pointer (some ⟨R,0,none⟩))(hb:Box w2 R qi #[a,b,c,d,e]):
   (results fn tm).run Tryz.prog w2=.ok (.agg #[a,b,c,d,e]) w2:=by
 have x0:=hb.cell 0;have x1:=hb.cell 1;have x2:=hb.cell 2;have x3:=hb.cell 3;have x4:=hb.cell 4;simp only[qg]at x0 x1 x2 x3 x4;have h4':tm[p]?.getD undef=.pointer (some ⟨R,0,none⟩):=by simpa using h4
 simp[results,hr,go_sem,h4',x0,x1,x2,x3,x4]
theorem qbw(h:Rs l v w0 rb i w):
   Calls Tryz.prog 104 #[.pointer (some ⟨rb,0,none⟩)] w (fun e w'=>∃n As cs,e=.returned (.agg #[.int .i64 n.kind,.int .i64 n.at_,.int .i64 n.num,.string ⟨n.name.toArray⟩,.slice As 0 cs])∧nt.ql (fun b=>w.heap.size≤b) w' [] (.slice As 0 cs)∧qis (qh l i) n∧Below w.heap.size w w'):=by
 obtain⟨P,hP⟩:=qc ((fun(e:Ending) (w':World)=>∃n As cs,e=.returned (.agg #[.int .i64 n.kind,.int .i64 n.at_,.int .i64 n.num,.string ⟨n.name.toArray⟩,.slice As 0 cs])∧nt.ql (fun b=>w.heap.size≤b) w' [] (.slice As 0 cs)∧qis (qh l i) n∧Below w.heap.size w w'));rw[←hP];have HP:=qb hP;obtain⟨R,hR⟩:=qc w.heap.size;obtain⟨W,hW⟩:=qc (w.alloc (.cells #[.int .i64 0,.int .i64 0,.int .i64 0,.string ⟨#[]⟩,.slice none 0 0] qi));have hbW:Below w.heap.size w W:=by rw[hW];exact qd.alloc qe _
 have bR:Box W R qi #[.int .i64 0,.int .i64 0,.int .i64 0,.string ⟨#[]⟩,.slice none 0 0]:=by rw[hW];exact Box.new _ _ _ _ hR
 have hsW:=h.on hbW;have HSW:=qb hsW;have HC:=qb (qs hsW);have HBR:=qb bR;have HBW:=qb hbW;have HW:=qb hW;have HRR:=qb hR;obtain⟨t,ht⟩:=qc (qh l i);rw[←ht]at HC HP;have HT:=qb ht;clear hP hR hW hbW bR hsW h ht;unfold tkA at HC;go_enter Tryz.func104,Tryz.ntmps104
 go_wp2_with (first|(rw[←HW.out,←HRR.out]));refine HC.out.mono ?_;rintro e w1 ⟨rfl,hb1⟩;obtain⟨N,hN⟩:=qc w1.heap.size;obtain⟨U,hU⟩:=qc (w1.alloc (.cells #[.int .i64 t.kind,.int .i64 t.at_,.int .i64 t.n,.string ⟨t.text.toArray⟩] TkT));have HEX:=qb (qiv (HSW.out.on hb1) t HT.out hN hU);have HB1:Hid (Below W.heap.size W U):=qb (by rw[hU];exact hb1.alloc hb1.size _);have HU:=qb hU;have HN:=qb hN;clear hN hU hb1;go_wp2_with (first|(rw[←HU.out,←HN.out]));refine HEX.out.mono ?_;rintro e w2 ⟨n,As,cs,j2,k2,rfl,hk2,ha2,hb2⟩;have hb3:=HB1.out.trans (hb2.mono HB1.out.size);obtain⟨O,hO⟩:=qc w2.heap.size;obtain⟨X,hX⟩:=qc (w2.alloc (.cells #[.int .i64 n.kind,.int .i64 n.at_,.int .i64 n.num,.string ⟨n.name.toArray⟩,.slice As 0 cs] qi));have hbX:Below W.heap.size W X:=by rw[hX];exact hb3.alloc hb3.size _
 have bX:Box X O qi #[.int .i64 n.kind,.int .i64 n.at_,.int .i64 n.num,.string ⟨n.name.toArray⟩,.slice As 0 cs]:=by rw[hX];exact Box.new _ _ _ _ hO
 have bR:=HBR.out.on hbX;have hRO:¬R=O:=by rw[hO];have:=hb3.size;have:=HBR.out.lt;omega
 have hOR:¬O=R:=fun e=>hRO e.symm;have x0:=bX.cell 0;have x1:=bX.cell 1;have x2:=bX.cell 2;have x3:=bX.cell 3;have x4:=bX.cell 4;simp only[qg]at x0 x1 x2 x3 x4;have fx0:=bX.frozen 0;have fx1:=bX.frozen 1;have fx2:=bX.frozen 2;have fx3:=bX.frozen 3;have fx4:=bX.frozen 4;have r0:=bR.cell 0;have r1:=bR.cell 1;have r2:=bR.cell 2;have r3:=bR.cell 3;have r4:=bR.cell 4;simp only[qg]at r0 r1 r2 r3 r4;have fr0:=bR.frozen 0;have fr1:=bR.frozen 1;have fr2:=bR.frozen 2;have fr3:=bR.frozen 3;have fr4:=bR.frozen 4;have HBR2:=qb bR;have HBX:=qb hbX;have HX:=qb hX;have HO:=qb hO;have HK:=qb hk2;have HA:=qb ha2;clear hb3 hb2 hbX bX bR hX hO hk2 ha2;go_wp2_with (first|(rw[←HX.out,←HO.out]));refine bodyPost_ret (qkI rfl rfl (qj HBR2.out _ _ _ _ _)) rfl ?_;rw[HP.out];exact⟨n,As,cs,rfl,qcj HK.out _,HA.out,qm (HBW.out.trans (HBX.out.mono HBW.out.size)) (by rw[HRR.out];exact Nat.le_refl _) _ _ _ _ _⟩
theorem qnx(m:Mv v rb i j w w'):Mv v rb i j w w'.drew:=⟨⟨m.grow.os,m.grow.tape,m.grow.output,m.grow.size,m.grow.block⟩,m.box⟩
theorem qas(h:Rs l v w0 rb i w)(hk:(qh l i).kind=1):
   Calls Tryz.prog 75 #[.pointer (some ⟨rb,0,none⟩)] w (fun e w'=>∃s,e=.returned (.tuple #[.agg #[.int .i64 12,.int .i64 (qh l i).at_,.int .i64 0,.string ⟨(qh l i).text.toArray⟩,s],.bool true])∧nt.ql (fun b=>w.heap.size≤b) w' [] s∧Mv v rb i (i+1) w w'):=by
 obtain⟨P,hP⟩:=qc ((fun(e:Ending) (w':World)=>∃s,e=.returned (.tuple #[.agg #[.int .i64 12,.int .i64 (qh l i).at_,.int .i64 0,.string ⟨(qh l i).text.toArray⟩,s],.bool true])∧nt.ql (fun b=>w.heap.size≤b) w' [] s∧Mv v rb i (i+1) w w'));rw[←hP];have HP:=qb hP;obtain⟨R,hR⟩:=qc w.heap.size;obtain⟨W,hW⟩:=qc (w.alloc (.cells #[.int .i64 0,.int .i64 0,.int .i64 0,.string ⟨#[]⟩,.slice none 0 0] qi));have hbW:Below w.heap.size w W:=by rw[hW];exact qd.alloc qe _
 have bR:Box W R qi #[.int .i64 0,.int .i64 0,.int .i64 0,.string ⟨#[]⟩,.slice none 0 0]:=by rw[hW];exact Box.new _ _ _ _ hR
 have hsW:=h.on hbW;have HSW:=qb hsW;have HC:=qb (qbw hsW);have HBR:=qb bR;have HBW:=qb hbW;have HW:=qb hW;have HRR:=qb hR;have hrR:¬rb=R:=by have:=h.lt;omega
 have hRr:¬R=rb:=fun e=>hrR e.symm;have HRB:=qb h.lt;have HLN:=qb h.env.src.len;obtain⟨t,ht⟩:=qc (qh l i);rw[←ht]at HC HP;have HT:=qb ht;have HK1:Hid (t.kind=1):=qb (by rw[ht];exact hk);clear hP hR hW hbW bR hsW h ht hk;go_enter Tryz.func75,Tryz.ntmps75
 go_wp2_with (first|(rw[←HW.out,←HRR.out]));refine HC.out.mono ?_;rintro e w1 ⟨n,As,cs,rfl,hk1,ha,hb1⟩
 have hn:n=.mk 12 t.at_ 0 t.text []:=by
   obtain⟨_,⟨_,h2⟩|⟨h2,_⟩|⟨h2,_⟩⟩:=ha
   · exact h2
   · have:=HK1.out;omega
   · exact absurd HK1.out h2
 subst hn;obtain⟨ta,hta⟩:=qc t.at_;obtain⟨tt,htt⟩:=qc t.text;simp only[NT.kind,NT.at_,NT.num,NT.name];rw[←hta,←htt]at HP ⊢;clear hta htt;obtain⟨O,hO⟩:=qc w1.heap.size;obtain⟨X,hX⟩:=qc (w1.alloc (.cells #[.int .i64 12,.int .i64 ta,.int .i64 0,.string ⟨tt.toArray⟩,.slice As 0 cs] qi));have hbX:Below W.heap.size W X:=by rw[hX];exact hb1.alloc hb1.size _
 have bX:Box X O qi #[.int .i64 12,.int .i64 ta,.int .i64 0,.string ⟨tt.toArray⟩,.slice As 0 cs]:=by rw[hX];exact Box.new _ _ _ _ hO
 have hRO:¬R=O:=by rw[hO];have:=hb1.size;have:=HBR.out.lt;omega
 have hOR:¬O=R:=fun e=>hRO e.symm;have hOr:¬O=rb:=by rw[hO];have:=hb1.size;have:=HBW.out.size;have:=HRB.out;omega
 have HX:=qb hX;have HO:=qb hO;have HK:=qb hk1;have HCE:Hid (∀w',Box w' O qi #[.int .i64 12,.int .i64 ta,.int .i64 0,.string ⟨tt.toArray⟩,.slice As 0 cs]→w'.cell? ⟨O,0,none⟩=some (.int .i64 12)∧w'.cell? ⟨O,1,none⟩=some (.int .i64 ta)∧w'.cell? ⟨O,2,none⟩=some (.int .i64 0)∧w'.cell? ⟨O,3,none⟩=some (.string ⟨tt.toArray⟩)∧w'.cell? ⟨O,4,none⟩=some (.slice As 0 cs)):=qb (fun w' q=>⟨q.cell 0,q.cell 1,q.cell 2,q.cell 3,q.cell 4⟩);have HBX:=qb bX;have HLX:=qb hbX
 have HTK:Hid (∀w',Below X.heap.size X w'→Calls Tryz.prog 99 #[.pointer (some ⟨rb,0,none⟩),.bool true] w' (fun e w2=>e=.returned (.bool true)∧Mv v rb i (i+1) X w2)):=qb (fun w' hb=>by
   have hin:=qC (l:=l) (i:=i) (by rw[←HT.out,HK1.out];decide);refine(qak ((HSW.out.on hbX).on hb) ⟨by omega,by have:=HLN.out;omega⟩).mono fun e w2 q=>⟨q.1,?_⟩;exact(Mv.of hb i).trans q.2)
 obtain⟨x0,x1,x2,x3,x4⟩:=HCE.out X bX;clear hb1 hbX bX hX hO hk1 ha;go_wp2_with (first|(rw[←HX.out,←HO.out]))
 go_region_held3 (fun w'=>w'.cell? ⟨O,0,none⟩=some (.int .i64 12)∧w'.cell? ⟨O,1,none⟩=some (.int .i64 ta)∧w'.cell? ⟨O,2,none⟩=some (.int .i64 0)∧w'.cell? ⟨O,3,none⟩=some (.string ⟨tt.toArray⟩)∧w'.cell? ⟨O,4,none⟩=some (.slice As 0 cs)) (first|go_keep)
   (first
     |(go_at_call 99;(with_reducible refine(HTK.out _ (qd.drew)).mono ?_);rintro e w2 ⟨rfl,hm2⟩;have hx2:=hm2.other HBX.out hOr;obtain⟨p0,p1,p2,p3,p4⟩:=HCE.out w2 hx2;have hr2:=hm2.other (HBR.out.on HLX.out) hRr;have HR2:=qb hr2;have HM2:=qb hm2;have r0:=hr2.cell 0;have r1:=hr2.cell 1;have r2:=hr2.cell 2;have r3:=hr2.cell 3;have r4:=hr2.cell 4;simp only[qg]at r0 r1 r2 r3 r4;have fr0:=hr2.frozen 0;have fr1:=hr2.frozen 1;have fr2:=hr2.frozen 2;have fr3:=hr2.frozen 3;have fr4:=hr2.frozen 4;clear hx2 hr2 hm2))
 all_goals
   clear x0 x1 x2 x3 x4;go_wp2_with fail;refine bodyPost_ret (em.qk rfl rfl rfl (qj HR2.out _ _ _ _ _).drew) rfl ?_;rw[HP.out];exact⟨_,rfl,qcj HK.out _,qaj (((Mv.of HBW.out i).trans (Mv.of HLX.out i)).trans HM2.out) (by rw[HRR.out];exact Nat.le_refl _) hRr _ _ _ _ _⟩
theorem qcy(h:Rs l v w0 rb i w)(hk:¬(qh l i).kind=1):
   Calls Tryz.prog 75 #[.pointer (some ⟨rb,0,none⟩)] w (fun e w'=>∃(n:NT) (As:Option Addr) (cs:Nat),e=.returned (.tuple #[.agg #[.int .i64 n.kind,.int .i64 n.at_,.int .i64 n.num,.string ⟨n.name.toArray⟩,.slice As 0 cs],.bool false])∧Mv v rb i i w w'):=by
 obtain⟨P,hP⟩:=qc ((fun(e:Ending) (w':World)=>∃(n:NT) (As:Option Addr) (cs:Nat),e=.returned (.tuple #[.agg #[.int .i64 n.kind,.int .i64 n.at_,.int .i64 n.num,.string ⟨n.name.toArray⟩,.slice As 0 cs],.bool false])∧Mv v rb i i w w'));rw[←hP];have HP:=qb hP;obtain⟨R,hR⟩:=qc w.heap.size;obtain⟨W,hW⟩:=qc (w.alloc (.cells #[.int .i64 0,.int .i64 0,.int .i64 0,.string ⟨#[]⟩,.slice none 0 0] qi));have hbW:Below w.heap.size w W:=by rw[hW];exact qd.alloc qe _
 have bR:Box W R qi #[.int .i64 0,.int .i64 0,.int .i64 0,.string ⟨#[]⟩,.slice none 0 0]:=by rw[hW];exact Box.new _ _ _ _ hR
 have hsW:=h.on hbW;have HSW:=qb hsW;have HC:=qb (qbw hsW);have HBR:=qb bR;have HBW:=qb hbW;have HW:=qb hW;have HRR:=qb hR;have hrR:¬rb=R:=by have:=h.lt;omega
 have hRr:¬R=rb:=fun e=>hrR e.symm;have HRB:=qb h.lt;have HLN:=qb h.env.src.len;obtain⟨t,ht⟩:=qc (qh l i);rw[←ht]at HC;have HT:=qb ht;have HK1:Hid (¬t.kind=1):=qb (by rw[ht];exact hk);clear hP hR hW hbW bR hsW h ht hk;go_enter Tryz.func75,Tryz.ntmps75
 go_wp2_with (first|(rw[←HW.out,←HRR.out]));refine HC.out.mono ?_;rintro e w1 ⟨n,As,cs,rfl,hk1,ha,hb1⟩
 have hn:n.kind≠12:=by
   obtain⟨_,⟨h2,_⟩|⟨h2,rfl⟩|⟨_,_,h2,_⟩⟩:=ha
   · exact absurd h2 HK1.out
   · show ¬(10:Int)=12;decide
   · exact h2
 obtain⟨nk,hnk⟩:=qc n.kind;obtain⟨na,hna⟩:=qc n.at_;obtain⟨nn,hnn⟩:=qc n.num;obtain⟨nm,hnm⟩:=qc n.name;rw[←hnk]at hn;rw[←hnk,←hna,←hnn,←hnm];have hn1:(nk==12)=false:=beq_eq_false_iff_ne.2 hn;have HNK:=qb hnk;have HNA:=qb hna;have HNN:=qb hnn;have HNM:=qb hnm;clear hnk hna hnn hnm hn;obtain⟨O,hO⟩:=qc w1.heap.size;obtain⟨X,hX⟩:=qc (w1.alloc (.cells #[.int .i64 nk,.int .i64 na,.int .i64 nn,.string ⟨nm.toArray⟩,.slice As 0 cs] qi));have hbX:Below W.heap.size W X:=by rw[hX];exact hb1.alloc hb1.size _
 have bX:Box X O qi #[.int .i64 nk,.int .i64 na,.int .i64 nn,.string ⟨nm.toArray⟩,.slice As 0 cs]:=by rw[hX];exact Box.new _ _ _ _ hO
 have hRO:¬R=O:=by rw[hO];have:=hb1.size;have:=HBR.out.lt;omega
 have hOR:¬O=R:=fun e=>hRO e.symm;have hOr:¬O=rb:=by rw[hO];have:=hb1.size;have:=HBW.out.size;have:=HRB.out;omega
 have HX:=qb hX;have HO:=qb hO;have HK:=qb hk1;have HCE:Hid (∀w',Box w' O qi #[.int .i64 nk,.int .i64 na,.int .i64 nn,.string ⟨nm.toArray⟩,.slice As 0 cs]→w'.cell? ⟨O,0,none⟩=some (.int .i64 nk)∧w'.cell? ⟨O,1,none⟩=some (.int .i64 na)∧w'.cell? ⟨O,2,none⟩=some (.int .i64 nn)∧w'.cell? ⟨O,3,none⟩=some (.string ⟨nm.toArray⟩)∧w'.cell? ⟨O,4,none⟩=some (.slice As 0 cs)):=qb (fun w' q=>⟨q.cell 0,q.cell 1,q.cell 2,q.cell 3,q.cell 4⟩);have HBX:=qb bX;have HLX:=qb hbX
 have HTK:Hid (∀w',Below X.heap.size X w'→Calls Tryz.prog 99 #[.pointer (some ⟨rb,0,none⟩),.bool false] w' (fun e w2=>e=.returned (.bool false)∧Mv v rb i (i) X w2)):=qb (fun w' hb=>by
   skip
   refine(qM (rb:=rb) w').mono fun e w2 q=>⟨q.1,?_⟩;exact(Mv.of hb i).trans (Mv.of q.2 i))
 obtain⟨x0,x1,x2,x3,x4⟩:=HCE.out X bX;clear hb1 hbX bX hX hO hk1 ha;go_wp2_with (first|(rw[←HX.out,←HO.out]))
 go_region_held3 (fun w'=>w'.cell? ⟨O,0,none⟩=some (.int .i64 nk)∧w'.cell? ⟨O,1,none⟩=some (.int .i64 na)∧w'.cell? ⟨O,2,none⟩=some (.int .i64 nn)∧w'.cell? ⟨O,3,none⟩=some (.string ⟨nm.toArray⟩)∧w'.cell? ⟨O,4,none⟩=some (.slice As 0 cs)) (first|go_keep)
   (first
     |(go_at_call 99;(with_reducible refine(HTK.out _ (qd.drew)).mono ?_);rintro e w2 ⟨rfl,hm2⟩;have hx2:=hm2.other HBX.out hOr;obtain⟨p0,p1,p2,p3,p4⟩:=HCE.out w2 hx2;have hr2:=hm2.other (HBR.out.on HLX.out) hRr;have HR2:=qb hr2;have HM2:=qb hm2;have r0:=hr2.cell 0;have r1:=hr2.cell 1;have r2:=hr2.cell 2;have r3:=hr2.cell 3;have r4:=hr2.cell 4;simp only[qg]at r0 r1 r2 r3 r4;have fr0:=hr2.frozen 0;have fr1:=hr2.frozen 1;have fr2:=hr2.frozen 2;have fr3:=hr2.frozen 3;have fr4:=hr2.frozen 4;clear hx2 hr2 hm2))
 all_goals
   clear x0 x1 x2 x3 x4;go_wp2_with fail;refine bodyPost_ret (em.qk rfl rfl rfl (qj HR2.out _ _ _ _ _).drew) rfl ?_;rw[HP.out];exact⟨n,As,cs,by(first|(rw[HNK.out,HNA.out,HNN.out,HNM.out];done)|(rw[HNK.out,HNA.out,HNN.out,HNM.out];rfl)),qaj (((Mv.of HBW.out i).trans (Mv.of HLX.out i)).trans HM2.out) (by rw[HRR.out];exact Nat.le_refl _) hRr _ _ _ _ _⟩
end Go.Proofs.YtdndfifkfjoffaaGreatDoor.pm.sx

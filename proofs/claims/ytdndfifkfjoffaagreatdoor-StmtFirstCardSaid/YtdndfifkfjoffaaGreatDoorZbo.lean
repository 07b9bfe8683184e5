/- What the law on the first token lays together ahead of it: a region that draws its order, by what holds at each of its points. (and what it stands on) -/
import Derived.Test.YtdndfifkfjoffaaGreatDoorZae
import Derived.Test.YtdndfifkfjoffaaGreatDoorZah
import Derived.Test.YtdndfifkfjoffaaGreatDoorZad
import Derived.Test.YtdndfifkfjoffaaGreatDoorZau
import Derived.Test.YtdndfifkfjoffaaGreatDoorZbn
import Derived.StillTailTactics
import Derived.Deep.RegionHeld3
import Derived.Test.YtdndfifkfjoffaaGreatDoorZaa
import Derived.Test.YtdndfifkfjoffaaGreatDoorZac
import Derived.BigQuiet
import Derived.Test.YtdndfifkfjoffaaGreatDoorZab
import Derived.Test.YtdndfifkfjoffaaGreatDoorZam
set_option maxRecDepth 100000
set_option maxHeartbeats 4000000
namespace Go.Proofs.YtdndfifkfjoffaaGreatDoor.pm
open Go.RowKit wd lx nt ne mem
open vt (I64 qt)
theorem qms(l:List UInt8):0≤(whole.qbs l).1∧(whole.qbs l).1≤9223372036854775807:=by
 refine⟨qge l,?_⟩;unfold whole.qbs;by_cases hd:whole.qhv l=true
 · rw[if_pos hd];split
   · decide
   · rename_i h
     have:¬9223372036854775808≤(whole.qeN l).1:=fun e=>h (Or.inr e);show(whole.qeN l).1≤_
     omega
 · rw[if_neg hd];decide
theorem qoM{s t:List UInt8}{e k n:Int}(h:qR s=(e,k,n,t)):0≤n∧n≤9223372036854775807:=by
 cases s with
 |nil=>simp[qR]at h;omega
 |cons c r=>
   unfold qR at h;simp only at h;split at h
   · injection h with _ h;injection h with _ h;injection h with h _;omega
   · split at h
     · injection h with _ h;injection h with _ h;injection h with h _
       rw[←h];exact qms _
     · split at h
       · injection h with _ h;injection h with _ h;injection h with h _;omega
       · injection h with _ h;injection h with _ h;injection h with h _;omega
theorem qjo:∀{ts:List Tok},qeL ts→∀t∈ts,0≤t.n∧t.n≤9223372036854775807
 |[],_,_,ht=>by cases ht
 |[u],h,t,ht=>by
   unfold qeL at h;have:t=u:=by simpa using ht
   subst this
   rw[h.2.1];decide
 |u::v::ts,h,t,ht=>by
   unfold qeL at h;rcases List.mem_cons.1 ht with rfl|ht
   · exact qoM h.1
   · exact qjo h.2.2 t ht
theorem qjC{s:List UInt8}:∀{ts:List Tok} {e:Nat},qjP s e ts→∀t∈ts,t.at_+t.text.length≤s.length
 |[],_,_,_,ht=>by cases ht
 |u::ts,_,h,t,ht=>by
   rcases List.mem_cons.1 ht with rfl|ht
   · exact h.2.1
   · exact qjC h.2.2.2.2 t ht
theorem qgw{ts:List Tok}(h:∀t∈ts,(0≤t.n∧t.n≤9223372036854775807)∧t.at_+t.text.length≤1048576):∀i,I64 (qh (ts.map qK) i).at_∧I64 (qh (ts.map qK) i).n∧(qh (ts.map qK) i).text.length≤281474976710656:=by
 intro i;by_cases h0:0≤i∧i.toNat<ts.length
 · have e:qh (ts.map qK) i=qK ts[i.toNat]:=by
     unfold qh;rw[if_pos h0.1,List.getD_eq_getElem?_getD,List.getElem?_map,List.getElem?_eq_getElem h0.2];rfl
   rw[e];obtain⟨q1,q2⟩:=h _ (List.getElem_mem h0.2);refine⟨?_,?_,?_⟩
   · show I64 ((ts[i.toNat].at_:Nat):Int);unfold I64;omega
   · show I64 ts[i.toNat].n;unfold I64;omega
   · show ts[i.toNat].text.length≤_;omega
 · have e:qh (ts.map qK) i=⟨0,0,0,[]⟩:=by
     unfold qh;by_cases h1:0≤i
     · rw[if_pos h1,List.getD_eq_getElem?_getD,List.getElem?_eq_none (by rw[List.length_map];omega)];rfl
     · rw[if_neg h1]
   rw[e];exact⟨by show I64 0;unfold I64;omega,by show I64 0;unfold I64;omega,by show 0≤281474976710656;omega⟩
structure Cut(s:List UInt8)(ts:List Tok):Prop where
 good:qm2 (ts.map qK)
 toks:qeL ts
 fair:∀i,I64 (qh (ts.map qK) i).at_∧I64 (qh (ts.map qK) i).n∧(qh (ts.map qK) i).text.length≤281474976710656
 len:ts.length≤s.length+1
 raw:∀t∈ts,(0≤t.n∧t.n≤9223372036854775807)∧t.at_+t.text.length≤1048576
theorem qiF{s:List UInt8}{q:Nat}{ts:List Tok}(hs:s.length≤16384)(h:qaA s 0=(0,q,ts)):Cut s ts:=by
 obtain⟨h1,h2⟩:=qhV s s.length 0 ts q (by omega) (by omega) (by rw[List.drop_zero];exact h);have h3:=qhW h1;have h4:=qjC h1;refine⟨qnj h2 (fun t ht=>by have:=h3 t ht;omega),h2,qgw (fun t ht=>⟨qjo h2 t ht,by have:=h4 t ht;omega⟩),?_,fun t ht=>⟨qjo h2 t ht,by have:=h4 t ht;omega⟩⟩;have:=qdm s.length s 0 qe;rw[h]at this;exact this
theorem qgS{s:List UInt8}{ts:List Tok}{v:Value}{w w':World}(hc:Cut s ts)(hs:s.length≤16384)(h:Got w.heap.size qcu 4 ts.length (qaQ ts) v w w'):Src (ts.map qK) v w':=
 ⟨qoy (qdS.of_got h),by rw[List.length_map];have:=hc.len;omega,hc.fair⟩
end Go.Proofs.YtdndfifkfjoffaaGreatDoor.pm
namespace Go.Proofs.YtdndfifkfjoffaaGreatDoor.pm
open Go.RowKit wd lx nt ne mem
open vt (I64 qt)
theorem qil(ts:List Tok)(i:Int):(∃t∈ts,qh (ts.map qK) i=qK t)∨qh (ts.map qK) i=⟨0,0,0,[]⟩:=by
 by_cases h0:0≤i∧i.toNat<ts.length
 · refine Or.inl ⟨ts[i.toNat],List.getElem_mem h0.2,?_⟩;unfold qh;rw[if_pos h0.1,List.getD_eq_getElem?_getD,List.getElem?_map,List.getElem?_eq_getElem h0.2];rfl
 · refine Or.inr ?_;unfold qh;by_cases h1:0≤i
   · rw[if_pos h1,List.getD_eq_getElem?_getD,List.getElem?_eq_none (by rw[List.length_map];omega)];rfl
   · rw[if_neg h1]
theorem qnR{ts:List Tok}{t:Tok}(h:t∈ts):∃i,qh (ts.map qK) i=qK t:=by
 obtain⟨k,hk,e⟩:=List.getElem_of_mem h;refine⟨(k:Int),?_⟩;unfold qh;rw[if_pos (by omega),List.getD_eq_getElem?_getD,List.getElem?_map,Int.toNat_natCast,List.getElem?_eq_getElem hk,e];rfl
theorem qep{ts:List Tok}(h:∀t∈ts,∃(s:List UInt8) (us:List Tok),Cut s us∧t∈us):qcP (ts.map qK):=by
 refine⟨fun i=>?_,fun i=>?_⟩
 · rcases qil ts i with⟨t,ht,e⟩|e
   · obtain⟨s,us,hc,hu⟩:=h t ht;obtain⟨k,hk⟩:=qnR hu;rw[e,←hk];exact hc.good k
   · rw[e];exact⟨fun q=>absurd q (by show ¬(0:Int)=1;decide),fun q=>absurd q (by show ¬(0:Int)=2;decide)⟩
 · rcases qil ts i with⟨t,ht,e⟩|e
   · obtain⟨s,us,hc,hu⟩:=h t ht;have:=(hc.raw t hu).2;rw[e];show t.text.length≤1048576
     omega
   · rw[e];exact Nat.zero_le _
theorem Cut.fine{s:List UInt8}{ts:List Tok}(h:Cut s ts):qcP (ts.map qK):=qep fun _ ht=>⟨s,ts,h,ht⟩
theorem qkf{s s2:List UInt8}{ts ms:List Tok}{K:Nat}(h:Cut s ts)(h2:Cut s2 ms):qcP (((ts.take K)++ms).map qK):=qep fun t ht=>(List.mem_append.1 ht).elim (fun q=>⟨s,ts,h,List.mem_of_mem_take q⟩) fun q=>⟨s2,ms,h2,q⟩
end Go.Proofs.YtdndfifkfjoffaaGreatDoor.pm
namespace Go.Proofs.YtdndfifkfjoffaaGreatDoor.pm
open Go.RowKit wd lx nt ne mem
open vt (I64 qt)
def qnb:List UInt8:=[105,115,111,32,99,32,105,110,116,59,32,109,97,105,110,32,123,32,99,32,61,32,49,59,32,102,40,99,41,59,32,125]
def qox:List Tok:=[⟨3,0,0,[105,115,111]⟩,⟨1,4,0,[99]⟩,⟨3,6,0,[105,110,116]⟩,⟨4,9,0,[59]⟩,⟨3,11,0,[109,97,105,110]⟩,⟨4,16,0,[123]⟩,⟨1,18,0,[99]⟩,⟨4,20,0,[61]⟩,⟨2,22,1,[49]⟩,⟨4,23,0,[59]⟩,⟨1,25,0,[102]⟩,⟨4,26,0,[40]⟩,⟨1,27,0,[99]⟩,⟨4,28,0,[41]⟩,⟨4,29,0,[59]⟩,⟨4,31,0,[125]⟩,⟨0,32,0,[]⟩]
def qmJ:NT:=.mk 32 20 0 [] [.mk 12 18 0 [99] [],.mk 10 22 1 [] []]
def qor:NT:=.mk 55 0 0 [] [.mk 52 0 0 [99] [.mk 1 6 0 [] []],.mk 30 16 0 [] [qmJ,.mk 38 25 0 [] [.mk 17 25 0 [102] [.mk 12 27 0 [99] []]]]]
theorem qhz:qaA qnb 0=(0,0,qox):=by kernel_rfl
theorem qlJ:qB (qox.map qK) 40 .stmt 6=some (.node qmJ 10):=by kernel_rfl
theorem qkb:qa7 (qox.map qK)=.node qor 16:=by kernel_rfl
theorem qde(w:World)(hL:LD w):Calls Tryz.prog 8 #[] w fun e w'=>e=.returned (.bool true)∧Below w.heap.size w w':=by
 have HA:=qex ⟨qnb.toArray⟩ w (by decide);have e13:(⟨qnb.toArray⟩:ByteArray).data.toList=qnb:=by simp
 rw[e13,qhz]at HA;have HA:=qb HA;have HC:=qb (qiF (by decide) qhz);have HL:=qb hL;clear hL;go_enter Tryz.func8,Tryz.ntmps8
 go_wp2_with fail;refine HA.out.mono ?_;rintro e w1 ⟨v,rfl,hg⟩;have hb1:Below w.heap.size w w1:=hg.2;have hsrc:=qgS HC.out (by decide) hg;have hx:=qch hsrc HC.out.fine (HL.out.on hb1);rw[qkb]at hx;have hx2:Calls Tryz.prog 17 #[v] w1 fun e w'=>∃s,e=.returned (.tuple #[.agg #[.int .i64 55,.int .i64 0,.int .i64 0,.string ⟨#[]⟩,s],.int .i64 16,.int .i64 0])∧nt.ql (fun _=>True) w' qor.kids s∧Hd qor∧Below w1.heap.size w1 w':=hx;have HX:=qb hx2;have HB1:=qb hb1;have HSRC:=qb hsrc;clear hx hx2 hg hb1 HA hsrc;go_wp2_with fail;refine HX.out.mono ?_;rintro e w2 ⟨s,rfl,hk,_,hb2⟩;obtain⟨A,c,hsl,_⟩:=hk.form;change s=.slice A 2 c at hsl;subst hsl;have HB2:=qb (HB1.out.trans (hb2.mono HB1.out.size));obtain⟨O,hO⟩:=qc w2.heap.size;obtain⟨U,hU⟩:=qc (w2.alloc (.cells #[.int .i64 55,.int .i64 0,.int .i64 0,.string ⟨#[]⟩,.slice A 2 c] qi));have hbU:Below w1.heap.size w1 U:=by rw[hU];exact hb2.alloc hb2.size _
 have HBU:=qb hbU;have HBX:Hid (Box U O qi #[.int .i64 55,.int .i64 0,.int .i64 0,.string ⟨#[]⟩,.slice A 2 c]):=qb (by rw[hU];exact Box.new _ _ _ _ hO);obtain⟨f,r,hr,hx⟩:=qka 6 (HSRC.out.on hbU) HC.out.fine (by unfold I64;omega) ((HL.out.on HB1.out).on hbU);obtain rfl:r=.node qmJ 10:=qc3 _ hr qlJ;have hx2:Calls Tryz.prog 10 #[v,.int .i64 6] U fun e w'=>∃s,e=.returned (.tuple #[.agg #[.int .i64 32,.int .i64 20,.int .i64 0,.string ⟨#[]⟩,s],.int .i64 10,.int .i64 0])∧nt.ql (fun _=>True) w' qmJ.kids s∧Hd qmJ∧Below U.heap.size U w':=hx;have HX2:=qb hx2;have HU:=qb hU;have HO:=qb hO;clear hx hx2 hr hbU hU hO hb2 hk HX;go_wp2_with (first|(rw[←HU.out,←HO.out]));refine HX2.out.mono ?_;rintro e w3 ⟨s,rfl,hk,_,hb3⟩;obtain⟨A2,c2,hsl,_⟩:=hk.form;change s=.slice A2 2 c2 at hsl;subst hsl;have hb:=HBU.out.trans (hb3.mono HBU.out.size);obtain⟨O2,hO⟩:=qc w3.heap.size;obtain⟨U2,hU⟩:=qc (w3.alloc (.cells #[.int .i64 32,.int .i64 20,.int .i64 0,.string ⟨#[]⟩,.slice A2 2 c2] qi));have hx1:Box U2 O qi #[.int .i64 55,.int .i64 0,.int .i64 0,.string ⟨#[]⟩,.slice A 2 c]:=by rw[hU];exact(HBX.out.on hb3).alloc _
 have hx2:Box U2 O2 qi #[.int .i64 32,.int .i64 20,.int .i64 0,.string ⟨#[]⟩,.slice A2 2 c2]:=by rw[hU];exact Box.new _ _ _ _ hO
 have HB:Hid (Below w.heap.size w U2):=qb (by rw[hU];exact HB1.out.trans ((hb.alloc hb.size _).mono HB1.out.size));obtain⟨⟨x0,x1,x2,x3,x4⟩,_⟩:=c5 hx1;obtain⟨⟨y0,y1,y2,y3,y4⟩,_⟩:=c5 hx2;have HU2:=qb hU;have HO2:=qb hO;clear hU hO hx1 hx2 hb hb3 hk HX2;go_wp2_with (first|(rw[←HU2.out,←HO2.out]));go_ret;exact⟨rfl,HB.out⟩
end Go.Proofs.YtdndfifkfjoffaaGreatDoor.pm
namespace Go.Proofs.YtdndfifkfjoffaaGreatDoor.ne
open Go.RowKit mem
open vt (qad qt)
abbrev TkT:TypeId:=40
def tkA(t:Tk):Value:=.agg #[.int .i64 t.kind,.int .i64 t.at_,.int .i64 t.n,.string ⟨t.text.toArray⟩]
end Go.Proofs.YtdndfifkfjoffaaGreatDoor.ne
namespace Go.Proofs.YtdndfifkfjoffaaGreatDoor.ne
open Go.RowKit mem
open vt (qt qad)
theorem qiV:(Tryz.prog.info? 40).map (fun i=>(i.zero,i.size,i.bytes))=some (some (.agg #[.int .i64 0,.int .i64 0,.int .i64 0,.string ⟨#[]⟩]),4,40):=by kernel_rfl
theorem qgU(t:Tk):∀u∈tkV t,u.oneCell'=true:=by
 intro u hu;simp[tkV]at hu;rcases hu with rfl|rfl|rfl|rfl<;>rfl
end Go.Proofs.YtdndfifkfjoffaaGreatDoor.ne
namespace Go.Proofs.YtdndfifkfjoffaaGreatDoor.pm
open Go.RowKit wd lx nt ne mem
open vt (I64 qt qad)
theorem qeI{w wr:World}{ops:Array Oper}{rest:List Oper}{o:Oper}{a:Act}{Q:Exit→Act→World→Prop}(hgd:o.guard=none)(s x:Operand)
   (ho:o.op=.call {callee:=.builtin .append,args:=#[s,x],argTypes:=#[23,23]})(B n:Nat)(acc new:List Tk)(v:Value)(b off m c:Nat)
   (hs:a.eval s=v)(hx:a.eval x=.slice (some ⟨b,off,none⟩) m c)(hg:Got B TkT 4 n (qav acc) v w wr)(hm:m=new.length)(hpos:0<m)(hnew:∀j u,(qav new)[j]?=some u→wr.cell? ⟨b,off+j,none⟩=some u)(hl:n+m≤1099511627776)(hB:B≤wr.heap.size)
   (n':Nat)(hn':n'=n+m)(h:∀v' w',Got B TkT 4 n' (qav (acc++new)) v' w w'→Below B wr w'→wpList Tryz.prog ops Q rest (a.put o.dst v') w'):
   wpList Tryz.prog ops Q (o::rest) a wr:=by
 obtain⟨i0,hi,hz0,hz1,hz2⟩:=info_parts qiV;refine qad hgd s x 23 ho B TkT i0 (.agg #[.int .i64 0,.int .i64 0,.int .i64 0,.string ⟨#[]⟩]) 4 40 Tryz.underlying23 hi hz0 hz1 hz2 rfl (by decide) v n (qav acc) hs hg.1 ⟨b,off,none⟩ m c (qav new) hx (by rw[qfI,hm]) (fun j u hu=>by rw[vt.qaI];exact hnew j u hu) ?_ (by unfold maxLen;omega) (by omega) hB ?_
 · intro u hu;unfold qav at hu;obtain⟨t,_,hu⟩:=List.mem_flatMap.1 hu;exact qgU t u hu
 intro v' w' h1 h2 h3;have hrow:=hg.1;subst hn';refine h v' w' ⟨?_,hg.2.grown h2 hB (fun k hk=>(hrow.lt k hk).1)⟩ ((Below.refl B wr).grown h2 hB (fun k hk=>(hrow.lt k hk).1));rw[qda];exact h1
theorem qnQ{a b:List Tk}{i:Int}(h:i<(a.length:Int)):qh (a++b) i=qh a i:=by
 unfold qh;by_cases h0:0≤i
 · rw[if_pos h0,if_pos h0,List.getD_eq_getElem?_getD,List.getD_eq_getElem?_getD,List.getElem?_append_left (by omega)]
 · rw[if_neg h0,if_neg h0]
theorem qmR{a:List Tk}{k:Nat}{i:Int}(h:i<(k:Int)):qh (a.take k) i=qh a i:=by
 unfold qh;by_cases h0:0≤i
 · rw[if_pos h0,if_pos h0,List.getD_eq_getElem?_getD,List.getD_eq_getElem?_getD,List.getElem?_take,if_pos (by omega)]
 · rw[if_neg h0,if_neg h0]
theorem qfS{a b:List Tk}{k:Nat}(hk:k≤a.length):qbZ a (a.take k++b) k:=fun i hi=>by
 rw[qnQ (by rw[List.length_take];omega),qmR hi]
theorem qgj{B:Nat}{w:World}{l:List Tk}{A:Option Addr}{n c:Nat}(h:qb7 B w l (.slice A n c))(h0:0<l.length):∃b off,A=some ⟨b,off,none⟩∧b<B∧n=l.length∧∀j u,(qav l)[j]?=some u→w.cell? ⟨b,off+j,none⟩=some u:=by
 obtain⟨_,A',c',hv,hc⟩:=h;injection hv with hA hn hcc
 subst hA;obtain⟨b,off,hA,hb,hcc⟩:=hc h0;exact⟨b,off,hA,hb,hn,hcc⟩
theorem qgi(l:List Tk)(k:Nat){j:Nat}{u:Value}(h:(qav (l.take k))[j]?=some u):(qav l)[j]?=some u:=by
 have e:qav l=qav (l.take k)++qav (l.drop k):=by rw[←qda,List.take_append_drop]
 have hj:j<(qav (l.take k)).length:=by
   rcases Nat.lt_or_ge j (qav (l.take k)).length with h1|h1
   · exact h1
   · rw[List.getElem?_eq_none h1]at h;cases h
 rw[e,List.getElem?_append_left hj];exact h
end Go.Proofs.YtdndfifkfjoffaaGreatDoor.pm
namespace Go.Proofs.YtdndfifkfjoffaaGreatDoor.nt
open Go Go.RowKit
section
variable{P:Program}{ops:Array Oper}{Q:Exit→Act→World→Prop}
def upL(L:Nat→Bool)(i:Nat):Nat→Bool:=fun j=>if j=i then true else L j
def upV(V:Nat→Value)(i:Nat)(v:Value):Nat→Value:=fun j=>if j=i then v else V j
structure qaL(ops:Array Oper)(a0:Act)(L:Nat→Bool)(V:Nat→Value)(a:Act):Prop where
 size:a.tmps.size=a0.tmps.size
 defers:a.defers=a0.defers
 told:∀i o d,ops[i]?=some o→o.dst=some d→L i=true→a.tmps[d]?=some (V i)
 rest:∀k,(∀i o,ops[i]?=some o→L i=true→o.dst≠some k)→a.tmps[k]?=a0.tmps[k]?
def qgR(ops:Array Oper)(n:Nat):Bool:=
 (List.range ops.size).all fun i=>match ops[i]? with
   |some o=>(o.after.all fun e=>!Region.binds .any e|| decide (e.on<i))&&(match o.dst with
     |some d=>decide (d<n)&&(List.range i).all fun j=>match ops[j]? with
       |some q=>q.dst !=some d
       |none=>true
     |none=>true)
   |none=>true
theorem qih{n:Nat}(h:qgR ops n=true):(∀(i:Nat) (o:Oper) (d:Nat),ops[i]?=some o→o.dst=some d→d<n)∧(∀(i:Nat) (o:Oper),ops[i]?=some o→∀e∈o.after,Region.binds .any e=true→e.on<i)∧
   ∀(i j:Nat) (o q:Oper) (d:Nat),ops[i]?=some o→ops[j]?=some q→o.dst=some d→q.dst=some d→i=j:=by
 have key:∀(i:Nat) (o:Oper),ops[i]?=some o→(∀e∈o.after,Region.binds .any e=true→e.on<i)∧∀d,o.dst=some d→d<n∧∀(j:Nat) (q:Oper),j<i→ops[j]?=some q→q.dst≠some d:=by
   intro i o ho;have hi:=(Array.getElem?_eq_some_iff.1 ho).1;have h1:=List.all_eq_true.1 h i (List.mem_range.2 hi);simp only[ho,Bool.and_eq_true]at h1;refine⟨fun e he hbd=>?_,fun d hd=>?_⟩
   · have:=Array.all_eq_true_iff_forall_mem.1 h1.1 e he;rw[hbd,Bool.not_true,Bool.false_or]at this;exact of_decide_eq_true this
   · have h2:=h1.2;simp only[hd,Bool.and_eq_true]at h2;refine⟨of_decide_eq_true h2.1,fun j q hj hq e=>?_⟩;have h3:=List.all_eq_true.1 h2.2 j (List.mem_range.2 hj);simp only[hq,e]at h3;simp at h3
 refine⟨fun i o d ho hd=>((key i o ho).2 d hd).1,fun i o ho=>(key i o ho).1,fun i j o q d ho hq hd hd2=>?_⟩;rcases Nat.lt_trichotomy i j with h1|h1|h1
 · exact absurd hd (((key j q hq).2 d hd2).2 i o h1 ho)
 · exact h1
 · exact absurd hd2 (((key i o ho).2 d hd).2 j q h1 hq)
theorem qaL.none(a0:Act)(V:Nat→Value):qaL ops a0 (fun _=>false) V a0:=⟨rfl,rfl,fun _ _ _ _ _ h=>(by cases h),fun _ _=>rfl⟩
theorem qaL.put{a0 a:Act}{L:Nat→Bool}{V:Nat→Value}{i:Nat}{o:Oper}{v:Value}(h:qaL ops a0 L V a)(hb:qgR ops a0.tmps.size=true)(hi:ops[i]?=some o):qaL ops a0 (upL L i) (upV V i v) (a.put o.dst v):=by
 obtain⟨b1,_,b3⟩:=qih hb
 cases hd:o.dst with
 |none=>
   refine⟨h.size,h.defers,fun j q d hj hq hL=>?_,fun k hk=>?_⟩
   · have hji:j≠i:=fun e=>by subst e;rw[hi]at hj;cases hj;rw[hd]at hq;cases hq
     have e1:upV V i v j=V j:=if_neg hji;rw[e1];exact h.told j q d hj hq (by unfold upL at hL;rwa [if_neg hji]at hL)
   · exact h.rest k fun j q hj hL=>hk j q hj (by unfold upL;by_cases e:j=i<;>simp[e,hL])
 |some d=>
   have hlt:=b1 i o d hi hd;refine⟨by simp only[Act.put,Array.size_setIfInBounds];exact h.size,h.defers,fun j q d' hj hq hL=>?_,fun k hk=>?_⟩
   · by_cases hji:j=i
     · subst hji;rw[hi]at hj;cases hj;rw[hd]at hq;cases hq;have e1:upV V j v j=v:=if_pos rfl;rw[e1];exact Array.getElem?_setIfInBounds_self_of_lt (by rw[h.size];exact hlt)
     · have hne:d≠d':=fun e=>hji (b3 j i q o d' hj hi hq (e▸hd));have e1:upV V i v j=V j:=if_neg hji;rw[e1];simp only[Act.put];rw[Array.getElem?_setIfInBounds_ne hne];exact h.told j q d' hj hq (by unfold upL at hL;rwa [if_neg hji]at hL)
   · have hne:d≠k:=fun e=>hk i o hi (by unfold upL;rw[if_pos rfl]) (e▸hd);simp only[Act.put];rw[Array.getElem?_setIfInBounds_ne hne];exact h.rest k fun j q hj hL=>hk j q hj (by unfold upL;by_cases e:j=i<;>simp[e,hL])
theorem qaL.eval{a0 a:Act}{L:Nat→Bool}{V:Nat→Value}{i d:Nat}{o:Oper}(h:qaL ops a0 L V a)(hi:ops[i]?=some o)(hd:o.dst=some d)(hL:L i=true):a.tmps.getD d undef=V i:=by
 rw[Array.getD_eq_getD_getElem?,h.told i o d hi hd hL];rfl
theorem qaL.eval0{a0 a:Act}{L:Nat→Bool}{V:Nat→Value}{k:Nat}(h:qaL ops a0 L V a)(hk:(ops.all fun o=>o.dst !=some k)=true):a.tmps.getD k undef=a0.tmps.getD k undef:=by
 rw[Array.getD_eq_getD_getElem?,Array.getD_eq_getD_getElem?,h.rest k fun i o ho _ e=>?_];have:=Array.all_eq_true_iff_forall_mem.1 hk o (Array.mem_of_getElem? ho);simp[e]at this
def qgK(V:Nat→Value):List (Option Tmp)→Nat→Act→Act
 |[],_,a=>a
 |d::ds,i,a=>qgK V ds (i+1) (a.put d (V i))
theorem qdD{a0:Act}{V:Nat→Value}(hb:qgR ops a0.tmps.size=true):∀(l:List Oper) (i:Nat) (a:Act) (L:Nat→Bool),ops.toList.drop i=l→(∀j,L j=decide (j<i))→qaL ops a0 L V a→∃L',(∀j,j<ops.size→L' j=true)∧qaL ops a0 L' V (qgK V (l.map (·.dst)) i a)
 |[],i,a,L,hl,hL,h=>by
   refine⟨L,fun j hj=>?_,h⟩;have:=List.drop_eq_nil_iff.1 hl;rw[hL,decide_eq_true_eq];simp only[Array.length_toList]at this
   omega
 |o::l,i,a,L,hl,hL,h=>by
   have hi:ops[i]?=some o:=by
     have e:(ops.toList.drop i)[0]?=some o:=by rw[hl];rfl
     rw[List.getElem?_drop]at e;simpa using e
   have hV:upV V i (V i)=V:=funext fun j=>by unfold upV;by_cases e:j=i<;>simp[e]
   have h2:=h.put (v:=V i) hb hi;rw[hV]at h2;refine qdD hb l (i+1) _ (upL L i) ?_ (fun j=>?_) h2
   · rw[←List.drop_drop,hl];rfl
   · unfold upL;by_cases e:j=i
     · rw[if_pos e];exact(decide_eq_true (by omega)).symm
     · rw[if_neg e,hL];exact decide_eq_decide.2 (by omega)
theorem qaL.one{a0 a b:Act}{L L':Nat→Bool}{V:Nat→Value}(h:qaL ops a0 L V a)(h':qaL ops a0 L' V b)(hL:∀j,j<ops.size→L j=true)(hL':∀j,j<ops.size→L' j=true):a=b:=by
 have e:a.tmps=b.tmps:=by
   apply Array.ext_getElem?;intro k;by_cases hk:∃(i:Nat) (o:Oper),ops[i]?=some o∧o.dst=some k
   · obtain⟨i,o,ho,hd⟩:=hk;have hi:=(Array.getElem?_eq_some_iff.1 ho).1;rw[h.told i o k ho hd (hL i hi),h'.told i o k ho hd (hL' i hi)]
   · have hn:∀(i:Nat) (o:Oper),ops[i]?=some o→o.dst≠some k:=fun i o ho e=>hk ⟨i,o,ho,e⟩;rw[h.rest k fun i o ho _=>hn i o ho,h'.rest k fun i o ho _=>hn i o ho]
 cases a;cases b
 have e2:=h.defers.trans h'.defers.symm;simp only at e e2;rw[e,e2]
def qdU(L:Nat→Bool):Nat→Nat
 |0=>0
 |n+1=>qdU L n+if L n then 0 else 1
theorem qht{L:Nat→Bool}{i:Nat}:∀n,n≤i→qdU (upL L i) n=qdU L n
 |0,_=>rfl
 |n+1,h=>by
   have e:upL L i n=L n:=if_neg (by omega);rw[qdU,qdU,qht n (by omega),e]
theorem qjw{L:Nat→Bool}{i:Nat}(hL:L i=false):∀n,i<n→qdU (upL L i) n+1=qdU L n
 |0,h=>by omega
 |n+1,h=>by
   rw[qdU,qdU];by_cases e:i=n
   · subst e;have e1:upL L i i=true:=if_pos rfl;rw[qht i qe,e1,hL];simp
   · have e1:upL L i n=L n:=if_neg (by omega);have:=qjw hL n (by omega);rw[e1];omega
theorem qfV{L:Nat→Bool}:∀n,qdU L n=0→∀j,j<n→L j=true
 |0,_,j,hj=>by omega
 |n+1,h,j,hj=>by
   rw[qdU]at h;by_cases e:j=n
   · subst e
     cases hh:L j with
     |true=>rfl
     |false=>rw[hh]at h;simp at h
   · exact qfV n (by omega) j (by omega)
theorem qn3{L:Nat→Bool}:∀n,(∃j,j<n∧L j=false)→∃j,j<n∧L j=false∧∀k,k<j→L k=true
 |0,h=>by obtain⟨j,hj,_⟩:=h;omega
 |n+1,h=>by
   by_cases hn:∃j,j<n∧L j=false
   · obtain⟨j,h1,h2,h3⟩:=qn3 n hn;exact⟨j,by omega,h2,h3⟩
   · obtain⟨j,h1,h2⟩:=h
     have e:j=n:=by
       rcases Nat.lt_or_ge j n with h3|h3
       · exact absurd ⟨j,h3,h2⟩ hn
       · omega
     subst e;refine⟨j,h1,h2,fun k hk=>?_⟩
     cases hh:L k with
     |true=>rfl
     |false=>exact absurd ⟨k,hk,hh⟩ hn
def qll(ops:Array Oper)(L:Nat→Bool):Prop:=∀i o,ops[i]?=some o→L i=true→∀e∈o.after,Region.binds .any e=true→L e.on=true
theorem qll.up{L:Nat→Bool}{i:Nat}{o:Oper}(h:qll ops L)(hi:ops[i]?=some o)(ho:∀e∈o.after,Region.binds .any e=true→L e.on=true):qll ops (upL L i):=by
 intro j q hq hL e he hb;unfold upL at hL ⊢;by_cases h1:e.on=i
 · rw[if_pos h1]
 · rw[if_neg h1];by_cases hj:j=i
   · subst hj;rw[hi]at hq;cases hq;exact ho e he hb
   · rw[if_neg hj]at hL;exact h j q hq hL e he hb
def qn8(P:Program)(ops:Array Oper)(Q:Exit→Act→World→Prop)(a0:Act)(J:(Nat→Bool)→(Nat→Value)→World→Prop)(i:Nat)(o:Oper):Prop:=
 ∀L V a w,qaL ops a0 L V a→J L V w→qll ops L→L i=false→(∀e∈o.after,Region.binds .any e=true→L e.on=true)→
   o.guard=none∧o.wp P a w (fun a' w'=>∃v,a'=a.put o.dst v∧J (upL L i) (upV V i v) w') Q
theorem qgM{id:Nat}{a0:Act}{w:World}(hm:P.follows .mixedOrders=true)(hb:qgR ops a0.tmps.size=true)(J:(Nat→Bool)→(Nat→Value)→World→Prop)
   (h0:J (fun _=>false) (fun _=>undef) w.drew)(hstep:∀i o,ops[i]?=some o→qn8 P ops Q a0 J i o)
   (hend:∀L V w',(∀j,j<ops.size→L j=true)→J L V w'→Q .normal (qgK V (ops.toList.map (·.dst)) 0 a0) w'):(Code.region id ops true).wp P Q a0 w:=by
 refine wp_region_any hm ?_
 have hfin:∀L V a w',(∀j,j<ops.size→L j=true)→qaL ops a0 L V a→J L V w'→Q .normal a w':=fun L V a w' hL hS hJ=>by
   obtain⟨L',h1,h2⟩:=qdD (a0:=a0) (V:=V) hb ops.toList 0 a0 (fun _=>false) rfl (fun j=>(decide_eq_false (by omega)).symm) (qaL.none a0 V);rw[hS.one h2 hL h1];exact hend L V w' hL hJ
 obtain⟨_,hback,_⟩:=qih hb
 have main:∀fuel (listed:Array Bool) L V a w',listed.size=ops.size→(∀j,j<ops.size→listed.getD j true=L j)→qdU L ops.size≤fuel→qll ops L→qaL ops a0 L V a→J L V w'→wpAny P .any ops Q fuel listed a w':=by
   intro fuel
   induction fuel with
   |zero=>
     intro listed L V a w' hz hs hc hC hS hJ;have hL:=qfV (L:=L) ops.size (by omega);refine⟨List.eq_nil_iff_forall_not_mem.2 fun i hi=>?_,hfin L V a w' hL hS hJ⟩;obtain⟨h1,o,ho,_⟩:=mem_ready.1 hi;have hlt:=(Array.getElem?_eq_some_iff.1 ho).1;rw[hs i hlt,hL i hlt]at h1
     cases h1
   |succ fuel ih=>
     intro listed L V a w' hz hs hc hC hS hJ;refine⟨fun h0=>?_,fun i hi=>?_⟩
     · by_cases hex:∃j,j<ops.size∧L j=false
       · exfalso
         obtain⟨j,hj,hLj,hbelow⟩:=qn3 _ hex
         have:j∈Region.ready .any ops listed:=by
           refine mem_ready.2 ⟨(hs j hj).trans hLj,ops[j],Array.getElem?_eq_getElem hj,fun e he hbd=>?_⟩;have hlt:=hback j ops[j] (Array.getElem?_eq_getElem hj) e he hbd;have h4:=hs e.on (by omega);have l1:e.on<listed.size:=by omega
           have h5:=hbelow e.on hlt;simp only[Array.getD_eq_getD_getElem?,Array.getElem?_eq_getElem l1,Option.getD_some]at h4 ⊢;rw[h4,h5]
         rw[h0]at this;cases this
       · exact hfin L V a w' (fun j hj=>by
           cases hh:L j with
           |true=>rfl
           |false=>exact absurd ⟨j,hj,hh⟩ hex) hS hJ
     · obtain⟨h1,o,ho,h2⟩:=mem_ready.1 hi;have hlt:=(Array.getElem?_eq_some_iff.1 ho).1;have hLi:L i=false:=(hs i hlt).symm.trans h1
       have hw:∀e∈o.after,Region.binds .any e=true→L e.on=true:=(fun e he hbd=>by
         have h3:=h2 e he hbd;have hlt2:=hback i o ho e he hbd;have h4:=hs e.on (by omega);have l1:e.on<listed.size:=by omega
         simp only[Array.getD_eq_getD_getElem?,Array.getElem?_eq_getElem l1,Option.getD_some]at h3 h4;rw[←h4,h3])
       obtain⟨hg,hwp⟩:=hstep i o ho L V a w' hS hJ hC hLi hw;unfold wpOp;rw[ho];simp only;rw[if_pos (show Region.wanted o (yielded ops a.tmps)=true by simp[Region.wanted,hg])];refine .inl (Oper.wp_mono (fun a' w'' hh=>?_) hwp);obtain⟨v,rfl,hJ'⟩:=hh;refine ih _ (upL L i) (upV V i v) _ w'' (by rw[Array.size_setIfInBounds];exact hz) (fun j hj=>?_) (by have:=qjw hLi ops.size hlt;omega) (hC.up ho hw) (hS.put hb ho) hJ';by_cases hij:j=i
       · subst hij;have e1:upL L j j=true:=if_pos rfl;rw[Array.getD_eq_getD_getElem?,Array.getElem?_setIfInBounds_self_of_lt (by omega),e1];rfl
       · have e1:upL L i j=L j:=if_neg hij;rw[Array.getD_eq_getD_getElem?,Array.getElem?_setIfInBounds_ne (fun e=>hij e.symm),←Array.getD_eq_getD_getElem?,e1];exact hs j hj
 refine main ops.size _ (fun _=>false) (fun _=>undef) a0 _ (by simp) (fun j hj=>?_) ?_ (fun _ _ _ h=>(by cases h)) (qaL.none _ _) h0
 · simp[Array.getD_eq_getD_getElem?,hj]
 · have:∀n,qdU (fun _=>false) n≤n:=fun n=>by
     induction n with
     |zero=>exact Nat.le_refl _
     |succ n ih=>rw[qdU];simp;exact ih
   exact this _
def qcO(C:Nat→Oper→Prop):Nat→List Oper→Prop
 |_,[]=>True
 |i,o::l=>C i o∧qcO C (i+1) l
theorem qcO.get{C:Nat→Oper→Prop}:∀{l:List Oper} {k:Nat},qcO C k l→∀i o,l[i]?=some o→C (k+i) o
 |[],_,_,i,o,h=>by simp at h
 |x::l,k,hh,0,o,h=>by simp at h;subst h;exact hh.1
 |x::l,k,hh,i+1,o,h=>by
   have:=qcO.get hh.2 i o (by simpa using h);rw[show k+(i+1)=k+1+i by omega];exact this
theorem qcO.all{C:Nat→Oper→Prop}{l:List Oper}(h:qcO C 0 l):∀i o,l.toArray[i]?=some o→C i o:=fun i o ho=>by
 have:=qcO.get h i o (by simpa using ho)
 rwa [Nat.zero_add]at this
end
end Go.Proofs.YtdndfifkfjoffaaGreatDoor.nt
namespace Go.Proofs.YtdndfifkfjoffaaGreatDoor.pm
open Go.RowKit wd lx nt ne mem
open vt (I64 qt Typ qeO)
def aPP(B N c J M c2 bL oL bM oM:Nat)(pre:List Tk)(t:Tk)(rj re:Int):Nat→Value→World→Prop
 |0,v,w=>w.ownsRow B TkT 4 v 0 []
 |1,v,_=>v=.slice (some ⟨bL,oL,none⟩) N c
 |2,v,_=>v=.int .i64 J
 |3,v,_=>v=.slice (some ⟨bL,oL,none⟩) J c
 |4,v,w=>w.ownsRow B TkT 4 v J (qav pre)
 |5,v,_=>v=.slice (some ⟨bM,oM,none⟩) M c2
 |6,v,_=>v=.slice (some ⟨bM,oM,none⟩) M c2
 |7,v,_=>v=.int .i64 M
 |8,v,_=>v=.int .i64 ((M-1:Nat):Int)
 |9,v,_=>v=.pointer (some ⟨bM,oM+(M-1)*4,none⟩)
 |10,v,_=>v=tkA t
 |11,v,w=>∃b,v=.slice (some ⟨b,0,none⟩) 1 1∧b<w.heap.size∧∀j u,(tkV t)[j]?=some u→w.cell? ⟨b,0+j,none⟩=some u
 |12,v,w=>w.ownsRow B TkT 4 v (J+1) (qav (pre++[t]))
 |13,v,_=>∃(x0 x1 x2:Int) (x3:ByteArray) (A:Option Addr) (x4 x5:Nat),v=.tuple #[.agg #[.int .i64 x0,.int .i64 x1,.int .i64 x2,.string x3,.slice A x4 x5],.int .i64 rj,.int .i64 re]
 |14,v,_=>∃(x0 x1 x2:Int) (x3:ByteArray) (A:Option Addr) (x4 x5:Nat),v=.tuple #[.agg #[.int .i64 x0,.int .i64 x1,.int .i64 x2,.string x3,.slice A x4 x5],.int .i64 rj,.int .i64 re]
 |15,v,_=>∃(x0 x1 x2:Int) (x3:ByteArray) (A:Option Addr) (x4 x5:Nat),v=.agg #[.int .i64 x0,.int .i64 x1,.int .i64 x2,.string x3,.slice A x4 x5]
 |16,v,_=>v=.int .i64 rj
 |17,v,_=>v=.int .i64 re
 |18,v,w=>∃b y0 y1 y2 y3 y4,v=.pointer (some ⟨b,0,none⟩)∧B≤b∧Box w b qi #[y0,y1,y2,y3,y4]
 |20,v,_=>v=.int .i64 rj
 |21,v,_=>v=.int .i64 re
 |_,_,_=>True
def qcM:Nat→List Nat
 |0=>[4]
 |4=>[12]
 |11=>[12]
 |12=>[13]
 |18=>[19]
 |_=>[]
structure AJ(PP:Nat→Value→World→Prop)(W:World)(L:Nat→Bool)(V:Nat→Value)(w:World):Prop where
 base:Below W.heap.size W w
 pp:∀j,L j=true→(∀q∈qcM j,L q=false)→PP j (V j) w
 dis:L 0=true→L 11=true→L 4=false→(V 0).ownBlock≠(V 11).ownBlock
variable{B N c J M c2 bL oL bM oM:Nat}{pre:List Tk}{t:Tk}{rj re:Int}{L:Nat→Bool}{V:Nat→Value}{W w w':World}{i:Nat}{v:Value}
theorem AJ.start(PP:Nat→Value→World→Prop)(W:World):AJ PP W (fun _=>false) (fun _=>undef) W:=⟨Below.refl _ _,fun _ h=>(by cases h),fun h=>(by cases h)⟩
theorem AJ.step{PP:Nat→Value→World→Prop}(h:AJ PP W L V w)(hB:Below W.heap.size W w')(hst:∀j,L j=true→(∀q∈qcM j,upL L i q=false)→PP j (V j) w→PP j (V j) w')(hv:PP i v w')(hL:L i=false)
   (hd:upL L i 0=true→upL L i 11=true→upL L i 4=false→(upV V i v 0).ownBlock≠(upV V i v 11).ownBlock):AJ PP W (upL L i) (upV V i v) w':=by
 refine⟨hB,fun j hj hq=>?_,hd⟩;by_cases e:j=i
 · subst e;have e1:upV V j v j=v:=if_pos rfl;rw[e1];exact hv
 · have e1:upV V i v j=V j:=if_neg e;have e2:upL L i j=L j:=if_neg e;rw[e1];rw[e2]at hj;refine hst j hj hq (h.pp j hj fun q hqq=>?_);have:=hq q hqq;unfold upL at this;by_cases e3:q=i
   · rw[if_pos e3]at this;cases this
   · rwa [if_neg e3]at this
theorem AJ.dis_same(h:L 0=true→L 11=true→L 4=false→(V 0).ownBlock≠(V 11).ownBlock)(h0:i≠0)(h11:i≠11):upL L i 0=true→upL L i 11=true→upL L i 4=false→(upV V i v 0).ownBlock≠(upV V i v 11).ownBlock:=by
 have e0:upL L i 0=L 0:=if_neg fun e=>h0 e.symm;have e1:upL L i 11=L 11:=if_neg fun e=>h11 e.symm;have e2:upV V i v 0=V 0:=if_neg fun e=>h0 e.symm;have e3:upV V i v 11=V 11:=if_neg fun e=>h11 e.symm;rw[e0,e1,e2,e3];intro a1 a2 a3;refine h a1 a2 ?_;unfold upL at a3;by_cases e:4=i
 · rw[if_pos e]at a3;cases a3
 · rwa [if_neg e]at a3
theorem qfD{e:TypeId}{size n:Nat}{xs:List Value}{row:Option Nat}(h:w.ownsRow B e size v n xs)(hg:w.grownBy w' row)(hne:∀k,v.ownBlock=some k→some k≠row):w'.ownsRow B e size v n xs:=by
 refine⟨h.1,?_⟩;rcases h.2 with h2|⟨g,cap,cur,hv,hb,hh,r⟩
 · exact .inl h2
 · refine .inr ⟨g,cap,cur,hv,hb,(hg.block g (Array.getElem?_eq_some_iff.1 hh).1 (hne g (by rw[hv];rfl))).trans hh,r⟩
theorem qcR{row:Option Nat}(hg:w.grownBy w' row)(j:Nat)(h:aPP B N c J M c2 bL oL bM oM pre t rj re j v w)(hne:j=0∨j=4∨j=11∨j=12→∀k,v.ownBlock=some k→some k≠row)(hbox:∀b y,v=.pointer (some ⟨b,0,none⟩)→Box w b qi y→some b≠row):aPP B N c J M c2 bL oL bM oM pre t rj re j v w':=by
 match j,h with
 |0,h=>exact qfD h hg (hne (.inl rfl))
 |4,h=>exact qfD h hg (hne (.inr (.inl rfl)))
 |12,h=>exact qfD h hg (hne (.inr (.inr (.inr rfl))))
 |11,h=>
   obtain⟨b,hv,hb,hc⟩:=h
   exact⟨b,hv,Nat.lt_of_lt_of_le hb hg.size,fun j u hu=>(hg.cell_far ⟨b,0+j,none⟩ hb (hne (.inr (.inr (.inl rfl))) b (by rw[hv];rfl))).trans (hc j u hu)⟩
 |18,h=>
   obtain⟨b,y0,y1,y2,y3,y4,hv,hb,hx⟩:=h
   exact⟨b,y0,y1,y2,y3,y4,hv,hb,hx.grown hg (hbox b _ hv hx)⟩
 |1,h=>exact h
 |2,h=>exact h
 |3,h=>exact h
 |5,h=>exact h
 |6,h=>exact h
 |7,h=>exact h
 |8,h=>exact h
 |9,h=>exact h
 |10,h=>exact h
 |13,h=>exact h
 |14,h=>exact h
 |15,h=>exact h
 |16,h=>exact h
 |17,h=>exact h
 |19,h=>exact h
 |20,h=>exact h
 |21,h=>exact h
 |(j+22),h=>exact h
theorem qlm(j:Nat)(h:aPP B N c J M c2 bL oL bM oM pre t rj re j v w)(h0:j≠0)(h4:j≠4)(h11:j≠11)(h12:j≠12)(h18:j≠18):aPP B N c J M c2 bL oL bM oM pre t rj re j v w':=by
 match j,h with
 |0,h=>exact absurd rfl h0
 |4,h=>exact absurd rfl h4
 |12,h=>exact absurd rfl h12
 |11,h=>exact absurd rfl h11
 |18,h=>exact absurd rfl h18
 |1,h=>exact h
 |2,h=>exact h
 |3,h=>exact h
 |5,h=>exact h
 |6,h=>exact h
 |7,h=>exact h
 |8,h=>exact h
 |9,h=>exact h
 |10,h=>exact h
 |13,h=>exact h
 |14,h=>exact h
 |15,h=>exact h
 |16,h=>exact h
 |17,h=>exact h
 |19,h=>exact h
 |20,h=>exact h
 |21,h=>exact h
 |(j+22),h=>exact h
theorem qcW(h:Below w.heap.size w w'):w.grownBy w' none:=⟨h.os,h.tape,h.output,h.size,fun k hk _=>h.block k hk⟩
theorem AJ.plain(h:AJ (aPP W.heap.size N c J M c2 bL oL bM oM pre t rj re) W L V w)(hw:Below w.heap.size w w')(hv:aPP W.heap.size N c J M c2 bL oL bM oM pre t rj re i v w')(hL:L i=false)(h0:i≠0)(h11:i≠11):AJ (aPP W.heap.size N c J M c2 bL oL bM oM pre t rj re) W (upL L i) (upV V i v) w':=
 h.step (h.base.trans (hw.mono h.base.size)) (fun j _ _ hp=>qcR (qcW hw) j hp (fun _ _ _ e=>(by cases e)) (fun _ _ _ _ e=>(by cases e))) hv hL (AJ.dis_same h.dis h0 h11)
theorem qov{e:TypeId}{size n:Nat}{xs:List Value}{k:Nat}(h:w.ownsRow B e size v n xs)(hk:v.ownBlock=some k):k<w.heap.size:=(vt.Typ.own h hk).lt
theorem AJ.lay0(h:AJ (aPP W.heap.size N c J M c2 bL oL bM oM pre t rj re) W L V w)(hL:L 0=false)(hC:L 12=true→L 4=true):AJ (aPP W.heap.size N c J M c2 bL oL bM oM pre t rj re) W (upL L 0) (upV V 0 (.slice (some ⟨w.heap.size,0,none⟩) 0 0)) (w.alloc (.cells #[] TkT)):=by
 have hw:Below w.heap.size w (w.alloc (.cells #[] TkT)):=qd.alloc qe _;refine h.step (h.base.trans (hw.mono h.base.size)) (fun j _ _ hp=>qcR (qcW hw) j hp (fun _ _ _ e=>(by cases e)) (fun _ _ _ _ e=>(by cases e))) ?_ hL fun _ h2 h4=>?_
 · exact⟨rfl,.inr ⟨w.heap.size,0,#[],rfl,h.base.size,heap_alloc_new w _,Nat.le_refl _,by decide,rfl,rfl⟩⟩
 · have e1:upL L 0 11=L 11:=rfl;have e4:upL L 0 4=L 4:=rfl;rw[e1]at h2;rw[e4]at h4;have e2:upV V 0 (.slice (some ⟨w.heap.size,0,none⟩) 0 0) 0=.slice (some ⟨w.heap.size,0,none⟩) 0 0:=rfl;have e3:upV V 0 (.slice (some ⟨w.heap.size,0,none⟩) 0 0) 11=V 11:=rfl;rw[e2,e3];have h12:L 12=false:=Bool.eq_false_iff.2 fun e=>by rw[hC e]at h4;cases h4
   obtain⟨b,hv,hb,_⟩:=h.pp 11 h2 (fun q hq=>by simp[qcM]at hq;subst hq;exact h12);rw[hv];intro e;injection e with e
   simp at e;omega
theorem AJ.lay11(h:AJ (aPP W.heap.size N c J M c2 bL oL bM oM pre t rj re) W L V w)(hL:L 11=false):AJ (aPP W.heap.size N c J M c2 bL oL bM oM pre t rj re) W (upL L 11) (upV V 11 (.slice (some ⟨w.heap.size,0,none⟩) 1 1)) (w.alloc (.cells (tkV t).toArray TkT)):=by
 have hw:Below w.heap.size w (w.alloc (.cells (tkV t).toArray TkT)):=qd.alloc qe _;refine h.step (h.base.trans (hw.mono h.base.size)) (fun j _ _ hp=>qcR (qcW hw) j hp (fun _ _ _ e=>(by cases e)) (fun _ _ _ _ e=>(by cases e))) ?_ hL fun h2 _ h4=>?_
 · refine⟨w.heap.size,rfl,(by show w.heap.size<(w.heap.push _).size;rw[Array.size_push];omega),fun j u hu=>?_⟩;rw[Nat.zero_add,cell_of_row _ w.heap.size j (tkV t).toArray TkT (0,0) (heap_alloc_new w _)];simpa using hu
 · have e1:upL L 11 0=L 0:=rfl;have e4:upL L 11 4=L 4:=rfl;rw[e1]at h2;rw[e4]at h4;have hp:w.ownsRow W.heap.size TkT 4 (V 0) 0 []:=h.pp 0 h2 (fun q hq=>by simp[qcM]at hq;subst hq;exact h4);have e2:upV V 11 (.slice (some ⟨w.heap.size,0,none⟩) 1 1) 11=.slice (some ⟨w.heap.size,0,none⟩) 1 1:=rfl;have e3:upV V 11 (.slice (some ⟨w.heap.size,0,none⟩) 1 1) 0=V 0:=rfl;rw[e2,e3];intro e;have h3:w.heap.size<w.heap.size:=qov hp e;omega
theorem AJ.put4(h:AJ (aPP W.heap.size N c J M c2 bL oL bM oM pre t rj re) W L V w)(hL:L 4=false)(h0:L 0=true)(h12:L 12=true→L 4=true)(ty:TypeId)
   (hsrc:∀w',Below W.heap.size W w'→∀j u,(qav pre)[j]?=some u→w'.cell? ⟨bL,oL+j,none⟩=some u)(hJ:J=pre.length)(hl:J≤1099511627776):
   ∃v' w',(Builtin.append_ #[23,23] ty #[V 0,.slice (some ⟨bL,oL,none⟩) J c]).run Tryz.prog w=.ok v' w'∧AJ (aPP W.heap.size N c J M c2 bL oL bM oM pre t rj re) W (upL L 4) (upV V 4 v') w':=by
 obtain⟨i0,hi,hz0,hz1,hz2⟩:=info_parts qiV;have hp:w.ownsRow W.heap.size TkT 4 (V 0) 0 []:=h.pp 0 h0 (fun q hq=>by simp[qcM]at hq;subst hq;exact hL)
 obtain⟨v',w',hr,h2,h3,_,_⟩:=run_append_own_at (P:=Tryz.prog) w W.heap.size 23 ty TkT i0 (.agg #[.int .i64 0,.int .i64 0,.int .i64 0,.string ⟨#[]⟩]) 4 40 Tryz.underlying23 hi hz0 hz1 hz2 rfl (by decide) (V 0) 0 [] hp ⟨bL,oL,none⟩ J c (qav pre) (by rw[qfI,hJ]) (fun j u hu=>by rw[vt.qaI];exact hsrc w h.base j u hu) (fun u hu=>by
   unfold qav at hu;obtain⟨t,_,hu⟩:=List.mem_flatMap.1 hu;exact qgU t u hu) (by unfold maxLen;omega) (by omega) h.base.size
 have hB:Below W.heap.size w w':=(Below.refl _ w).grown h3 h.base.size (fun k hk=>(hp.lt k hk).1);refine⟨v',w',hr,h.step (h.base.trans hB) (fun j hj hq hpp=>qcR h3 j hpp (fun hw k hk e=>?_) (fun b y hv hx e=>?_)) ?_ hL fun _ _ h4=>?_⟩
 · rcases hw with rfl|rfl|rfl|rfl
   · have:=hq 4 (by simp[qcM]);simp[upL]at this
   · rw[hL]at hj;cases hj
   · exact h.dis h0 hj hL (by rw[hk,←e])
   · rw[h12 hj]at hL;cases hL
 · exact(vt.Typ.own hp e.symm).ne (⟨_,_,hx⟩:Typ w qi b) (by decide) rfl
 · have:w'.ownsRow W.heap.size TkT 4 v' (0+J) ([]++qav pre):=h2
   rwa [Nat.zero_add,List.nil_append]at this
 · simp[upL]at h4
theorem AJ.put12(h:AJ (aPP W.heap.size N c J M c2 bL oL bM oM pre t rj re) W L V w)(hL:L 12=false)(h4:L 4=true)(h11:L 11=true)(h0:L 0=true)(ty:TypeId)(hl:J≤1099511627776):
   ∃v' w',(Builtin.append_ #[23,23] ty #[V 4,V 11]).run Tryz.prog w=.ok v' w'∧AJ (aPP W.heap.size N c J M c2 bL oL bM oM pre t rj re) W (upL L 12) (upV V 12 v') w':=by
 obtain⟨i0,hi,hz0,hz1,hz2⟩:=info_parts qiV;have hp:w.ownsRow W.heap.size TkT 4 (V 4) J (qav pre):=h.pp 4 h4 (fun q hq=>by simp[qcM]at hq;subst hq;exact hL);obtain⟨b,hv,hb,hc⟩:=h.pp 11 h11 (fun q hq=>by simp[qcM]at hq;subst hq;exact hL);obtain⟨v',w',hr,h2,h3,_,_⟩:=run_append_own_at (P:=Tryz.prog) w W.heap.size 23 ty TkT i0 (.agg #[.int .i64 0,.int .i64 0,.int .i64 0,.string ⟨#[]⟩]) 4 40 Tryz.underlying23 hi hz0 hz1 hz2 rfl (by decide) (V 4) J (qav pre) hp ⟨b,0,none⟩ 1 1 (tkV t) rfl (fun j u hu=>by rw[vt.qaI];exact hc j u hu) (fun u hu=>qgU t u hu) (by unfold maxLen;omega) (by omega) h.base.size;have hB:Below W.heap.size w w':=(Below.refl _ w).grown h3 h.base.size (fun k hk=>(hp.lt k hk).1);refine⟨v',w',by rw[hv];exact hr,h.step (h.base.trans hB) (fun j hj hq hpp=>qcR h3 j hpp (fun hw k hk e=>?_) (fun b y hv hx e=>?_)) ?_ hL (AJ.dis_same h.dis (by decide) (by decide))⟩
 · rcases hw with rfl|rfl|rfl|rfl
   · have:=hq 4 (by simp[qcM]);rw[show upL L 12 4=L 4 from rfl,h4]at this;cases this
   · have:=hq 12 (by simp[qcM]);simp[upL]at this
   · have:=hq 12 (by simp[qcM]);simp[upL]at this
   · rw[hL]at hj;cases hj
 · exact(vt.Typ.own hp e.symm).ne (⟨_,_,hx⟩:Typ w qi b) (by decide) rfl
 · show w'.ownsRow W.heap.size TkT 4 v' (J+1) (qav (pre++[t]))
   rw[qda,qmQ];exact h2
theorem AJ.store19(h:AJ (aPP W.heap.size N c J M c2 bL oL bM oM pre t rj re) W L V w)(hL:L 19=false)(h4:L 4=true)(h12:L 12=true)(h13:L 13=true){b:Nat}(hb:W.heap.size≤b)(x0 x1 x2 x3 x4:Value):
   AJ (aPP W.heap.size N c J M c2 bL oL bM oM pre t rj re) W (upL L 19) (upV V 19 v) (((((w.setCell ⟨b,0,none⟩ x0).setCell ⟨b,1,none⟩ x1).setCell ⟨b,2,none⟩ x2).setCell ⟨b,3,none⟩ x3).setCell ⟨b,4,none⟩ x4):=by
 refine h.step (qm h.base hb _ _ _ _ _) (fun j hj hq hpp=>?_) trivial hL (AJ.dis_same h.dis (by decide) (by decide));refine qlm j hpp (fun e=>?_) (fun e=>?_) (fun e=>?_) (fun e=>?_) (fun e=>?_)
 · subst e;have:=hq 4 (by simp[qcM]);rw[show upL L 19 4=L 4 from rfl,h4]at this;cases this
 · subst e;have:=hq 12 (by simp[qcM]);rw[show upL L 19 12=L 12 from rfl,h12]at this;cases this
 · subst e;have:=hq 12 (by simp[qcM]);rw[show upL L 19 12=L 12 from rfl,h12]at this;cases this
 · subst e;have:=hq 13 (by simp[qcM]);rw[show upL L 19 13=L 13 from rfl,h13]at this;cases this
 · subst e;have:=hq 19 (by simp[qcM]);simp[upL]at this
theorem qam{P:Program}{o:Oper}{a:Act}{w w':World}{K:Act→World→Prop}{Q:Exit→Act→World→Prop}{v:Value}(h:(execOp a.eval o).run P w=.ok (.value v) w')(hk:K (a.put o.dst v) w'):o.wp P a w K Q:=by
 unfold Oper.wp;rw[h];exact hk
theorem qdE{P:Program}{o:Oper}{a:Act}{w w':World}{K:Act→World→Prop}{Q:Exit→Act→World→Prop}(s x:Operand)(t:TypeId){y u v':Value}(ho:o.op=.call {callee:=.builtin .append,args:=#[s,x],argTypes:=#[t,t]})
   (hs:a.eval s=y)(hx:a.eval x=u)(hr:(Builtin.append_ #[t,t] o.type #[y,u]).run P w=.ok v' w')(hk:K (a.put o.dst v') w'):o.wp P a w K Q:=by
 unfold Oper.wp execOp;simp only[ho,resolve,invoke,builtin,Sem.run_bind,Sem.run_pure,Result.andThen_ok,List.map_toArray,List.map_cons,List.map_nil,hs,hx,hr];exact hk
end Go.Proofs.YtdndfifkfjoffaaGreatDoor.pm

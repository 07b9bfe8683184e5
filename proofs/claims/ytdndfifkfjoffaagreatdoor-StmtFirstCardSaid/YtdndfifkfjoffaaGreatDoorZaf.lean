/- The package's reader as a machine over plain lists: what is begun stands in a row of its own. -/
import Derived.Test.YtdndfifkfjoffaaGreatDoorZab
import Derived.Test.YtdndfifkfjoffaaGreatDoorZaa
set_option maxRecDepth 100000
set_option maxHeartbeats 4000000
namespace Go.Proofs.YtdndfifkfjoffaaGreatDoor.pm.em
open Go.RowKit wd lx nt ne pm
inductive Frm where
 |brk
 |un(a s:Int)
 |bin(a s b:Int)(left:NT)
 |idx(a:Int)(left:NT)
 |arg(k a:Int)(nm:List UInt8)(ks:List NT)
def Frm.bind:Frm→Int
 |.un _ _=>6
 |.bin _ _ b _=>b
 |_=>0
def Frm.kids:Frm→List NT
 |.bin _ _ _ x=>[x]
 |.idx _ x=>[x]
 |.arg _ _ _ ks=>ks
 |_=>[]
def Frm.many:Frm→Bool
 |.arg _ _ _ _=>true
 |_=>false
def Frm.shut:Frm→List UInt8
 |.brk=>[41]
 |.idx _ _=>[93]
 |.arg _ _ _ _=>[41]
 |_=>[]
def Frm.node:Frm→NT
 |.brk=>.mk 0 0 0 [] []
 |.un a s=>.mk 15 a s [] []
 |.bin a s _ _=>.mk 16 a s [] []
 |.idx a _=>.mk 13 a 0 [] []
 |.arg k a nm _=>.mk k a 0 nm []
def Frm.close(n:NT):Frm→NT
 |.brk=>n
 |.un a s=>.mk 15 a s [] [n]
 |.bin a s _ x=>.mk 16 a s [] [x,n]
 |.idx a x=>.mk 13 a 0 [] [x,n]
 |.arg k a nm ks=>.mk k a 0 nm (ks++[n])
def Frm.more(n:NT):Frm→Frm
 |.arg k a nm ks=>.arg k a nm (ks++[n])
 |f=>f
def qan:List Frm→Int
 |[]=>0
 |f::_=>f.bind
def qn(t:Int):List Frm→NT→List Frm × NT
 |[],n=>([],n)
 |f::G,n=>if t≤f.bind then qn t G (f.close n) else(f::G,n)
def sgn(t:Tk):Int:=if t.kind=4 then qbk t.text else 0
def qH(l:List Tk)(i:Int):Int:=qau (sgn (qh l i))
inductive MS where
 |want(i:Int)(G:List Frm)
 |have_(i:Int)(G:List Frm)(n:NT)
def MS.stk:MS→List Frm
 |.want _ G=>G
 |.have_ _ G _=>G
inductive Out where
 |go(s:MS)
 |no(j:Int)
 |over(n:NT)(j:Int)
def qar(l:List Tk)(i k a:Int)(nm:List UInt8)(ks:List NT)(G:List Frm):Out:=
 if isM l i [40]=true then(if isM l (i+1) [41]=true then .go (.have_ (i+2) G (.mk k a 0 nm ks)) else .go (.want (i+1) (.arg k a nm ks::G))) else .no i
def qaV(l:List Tk)(i:Int):Res:=(run l (qdC l .typ i) .typ i).getD (.no i)
def qma(l:List Tk)(a:Int)(G:List Frm):Res→Out
 |.node n j=>qar l j 19 a [] [n] G
 |r=>.no r.pos
def qaO(l:List Tk)(i k a:Int)(G:List Frm):Out:=if (qh l i).kind=1 then qar l (i+1) k a (qh l i).text [] G else .no i
def qJ(l:List Tk)(i:Int)(G:List Frm):Out:=
 if isM l i [40]=true then .go (.want (i+1) (.brk::G))
 else if isM l i [45]=true then .go (.want (i+1) (.un (qh l i).at_ 2::G))
 else if isM l i [33]=true then .go (.want (i+1) (.un (qh l i).at_ 14::G))
 else if isW l i qec=true then qaO l (i+1) 18 (qh l i).at_ G
 else if isW l i qgP=true then qma l (qh l i).at_ G (qaV l (i+1))
 else if (qh l i).kind=2 then .go (.have_ (i+1) G (.mk 10 (qh l i).at_ (qh l i).n [] []))
 else if isW l i qb4=true then .go (.have_ (i+1) G (.mk 11 (qh l i).at_ 1 [] []))
 else if isW l i qbu=true then .go (.have_ (i+1) G (.mk 11 (qh l i).at_ 0 [] []))
 else if (qh l i).kind=1 then(if isM l (i+1) [40]=true then qaO l i 17 (qh l i).at_ G else .go (.have_ (i+1) G (.mk 12 (qh l i).at_ 0 (qh l i).text [])))
 else .no i
def qet(l:List Tk)(i:Int):List Frm × NT→Out
 |([],n)=>.over n i
 |(f::G,n)=>if f.many=true∧isM l i [44]=true then .go (.want (i+1) (f.more n::G)) else if isM l i f.shut=true then .go (.have_ (i+1) G (f.close n)) else .no i
def qD(l:List Tk):MS→Out
 |.want i G=>qJ l i G
 |.have_ i G n=>
   if isM l i [91]=true then .go (.want (i+1) (.idx (qh l i).at_ n::G))
   else if isM l i [46]=true then(if (qh l (i+1)).kind=1 then .go (.have_ (i+2) G (.mk 14 (qh l i).at_ 0 (qh l (i+1)).text [n])) else .no (i+1))
   else if qH l i=0 then qet l i (qn 1 G n)
   else if qH l i=3∧qan (qn (qH l i+1) G n).1=3 then qet l i (qn 1 (qn (qH l i+1) G n).1 (qn (qH l i+1) G n).2)
   else .go (.want (i+1) (.bin (qh l i).at_ (sgn (qh l i)) (qH l i) (qn (qH l i) (qn (qH l i+1) G n).1 (qn (qH l i+1) G n).2).2::(qn (qH l i) (qn (qH l i+1) G n).1 (qn (qH l i+1) G n).2).1))
theorem qbU(l:List Tk)(i:Int)(f:Frm)(G:List Frm)(n:NT):qet l i (f::G,n)=if f.many=true∧isM l i [44]=true then .go (.want (i+1) (f.more n::G)) else if isM l i f.shut=true then .go (.have_ (i+1) G (f.close n)) else .no i:=rfl
theorem qbY{t t':Int}(h:t≤t'):∀(G:List Frm) (n:NT),qn t (qn t' G n).1 (qn t' G n).2=qn t G n
 |[],n=>rfl
 |f::G,n=>by
   by_cases h1:t'≤f.bind
   · rw[show qn t' (f::G) n=qn t' G (f.close n) from if_pos h1,qbY h G,show qn t (f::G) n=qn t G (f.close n) from if_pos (by omega)]
   · rw[show qn t' (f::G) n=(f::G,n) from if_neg h1]
theorem qb5{t:Int}{G:List Frm}{n:NT}(h:qan G<t):qn t G n=(G,n):=by
 cases G with
 |nil=>rfl
 |cons f G=>exact if_neg (by have h:f.bind<t:=h;omega)
theorem qaa{t:Int}:∀(G:List Frm) (n:NT),(qn t G n).1.length≤G.length
 |[],n=>Nat.le_refl _
 |f::G,n=>by
   by_cases h1:t≤f.bind
   · rw[show qn t (f::G) n=qn t G (f.close n) from if_pos h1];exact Nat.le_trans (qaa G _) (by simp)
   · rw[show qn t (f::G) n=(f::G,n) from if_neg h1];exact Nat.le_refl _
theorem qlt(k:Int):0≤qau k∧qau k≤5:=by
 unfold qau
 repeat' split
 all_goals omega
theorem qbR(l:List Tk)(i:Int):0≤qH l i∧qH l i≤5:=qlt _
theorem qif{t:Tk}{lv:Int}:∀s:Nat,s≤14→qa6 t lv s=0→∀k:Int,14-(s:Int)<k∧k≤14→¬(t.kind=4∧qah k=t.text∧qau k=lv)
 |0,_,_,k,hk=>by omega
 |s+1,hs,h,k,hk=>by
   unfold qa6 at h;by_cases hc:t.kind=4∧qah ((14-s:Nat):Int)=t.text∧qau ((14-s:Nat):Int)=lv
   · rw[if_pos hc]at h;omega
   · rw[if_neg hc]at h;by_cases e:k=((14-s:Nat):Int)
     · rw[e];exact hc
     · exact qif s (by omega) h k ⟨by omega,hk.2⟩
theorem qmz(l:List Tk)(i:Int){lv:Int}(hlv:1≤lv):qbv l i lv=if qH l i=lv then sgn (qh l i) else 0:=by
 unfold qbv qH;obtain⟨t,ht⟩:=qc (qh l i);rw[←ht];by_cases h0:qa6 t lv 14=0
 · rw[h0];by_cases hb:qau (sgn t)=lv
   · rw[if_pos hb];exfalso
     have hk:t.kind=4:=by
       by_cases hk:t.kind=4
       · exact hk
       · rw[show sgn t=0 from if_neg hk,show qau 0=0 from rfl]at hb;omega
     have e:sgn t=qbk t.text:=if_pos hk
     have hm:t.text∈qz:=by
       by_cases hm:t.text∈qz
       · exact hm
       · rw[e,(qfG hm).1,show qau 0=0 from rfl]at hb;omega
     obtain⟨h1,h2,h3,_⟩:=qjM hm;exact qif 14 qe h0 (sgn t) (by rw[e];omega) ⟨hk,by rw[e];exact h3,hb⟩
   · rw[if_neg hb]
 · have hk:=qdq 14 h0;obtain⟨h1,h2,h3,h4⟩:=qdO 14 h0 ⟨hk,Nat.le_refl _⟩
   have e:sgn t=qa6 t lv 14:=by
     rw[show sgn t=qbk t.text from if_pos hk,←h4];exact(qmI h1 h2).2.1
   rw[e,if_pos h3]
inductive qV(l:List Tk)(d:Nat):MS→MS→Prop
 |refl (s:MS):qV l d s s
 |step {s s1 s2:MS}:d≤s.stk.length→qD l s=.go s1→qV l d s1 s2→qV l d s s2
theorem qV.trans{l:List Tk}{d:Nat}{s s1 s2:MS}(h:qV l d s s1)(h2:qV l d s1 s2):qV l d s s2:=by
 induction h with
 |refl _=>exact h2
 |step hd hs _ ih=>exact .step hd hs (ih h2)
theorem qV.one{l:List Tk}{d:Nat}{s s1:MS}(hd:d≤s.stk.length)(h:qD l s=.go s1):qV l d s s1:=.step hd h (.refl _)
def qbm(l:List Tk)(d:Nat)(s:MS)(j:Int):Prop:=∃s',qV l d s s'∧d≤s'.stk.length∧qD l s'=.no j
theorem qbm.at_{l:List Tk}{d:Nat}{s:MS}{j:Int}(hd:d≤s.stk.length)(h:qD l s=.no j):qbm l d s j:=⟨s,.refl _,hd,h⟩
theorem qbm.behind{l:List Tk}{d:Nat}{s s1:MS}{j:Int}(h:qV l d s s1)(h2:qbm l d s1 j):qbm l d s j:=by
 obtain⟨s',h3,h4⟩:=h2;exact⟨s',h.trans h3,h4⟩
def qO(l:List Tk)(d:Nat)(o:Out)(s:MS):Prop:=∃s1,o=.go s1∧qV l d s1 s
def qaG(l:List Tk)(d:Nat)(o:Out)(j:Int):Prop:=o=.no j∨∃s1,o=.go s1∧qbm l d s1 j
theorem qO.on{l:List Tk}{d:Nat}{s s2:MS}{o:Out}(hd:d≤s.stk.length)(e:qD l s=o)(h:qO l d o s2):qV l d s s2:=by
 obtain⟨s1,rfl,h⟩:=h;exact .step hd e h
theorem qaG.on{l:List Tk}{d:Nat}{s:MS}{o:Out}{j:Int}(hd:d≤s.stk.length)(e:qD l s=o)(h:qaG l d o j):qbm l d s j:=by
 rcases h with rfl|⟨s1,rfl,h⟩
 · exact .at_ hd e
 · exact .behind (.one hd e) h
def qit(l:List Tk)(j:Int):Prop:=isM l j [91]=false∧isM l j [46]=false
def qlj(l:List Tk)(t:Int)(j:Int)(G:List Frm)(n:NT):Prop:=qit l j∧(qH l j<t∨(t≤3∧qH l j=3∧qan (qn 4 G n).1=3))
theorem qcH{l:List Tk}{j:Int}{G:List Frm}{n:NT}(h:qlj l 1 j G n):qD l (.have_ j G n)=qet l j (qn 1 G n):=by
 obtain⟨⟨h1,h2⟩,h3⟩:=h;have hb:=qbR l j;rw[qD];rw[if_neg (by rw[h1];decide),if_neg (by rw[h2];decide)];rcases h3 with h3|⟨_,h3,h4⟩
 · rw[if_pos (by omega)]
 · rw[if_neg (by omega),h3,if_pos ⟨rfl,h4⟩,qbY (by omega)]
def qct(r:Res)(N:NT→Int→Prop)(F:Int→Prop):Prop:=
 match r with
 |.node n j=>N n j
 |.no j=>F j
 |.list _ _=>False
def qiu(r:Res)(N:List NT→Int→Prop)(F:Int→Prop):Prop:=
 match r with
 |.list n j=>N n j
 |.no j=>F j
 |.node _ _=>False
def Sim(l:List Tk):qL→Int→Res→Prop
 |.typ,_,_=>True
 |.lev t,i,r=>1≤t→t≤6→∀(G:List Frm) (d:Nat),qan G<t→d≤G.length→qct r (fun n j=>∃G' n',qV l d (.want i G) (.have_ j G' n')∧qn t G' n'=(G,n)∧qlj l t j G' n') (fun j=>qbm l d (.want i G) j)
 |.loop t left,i,r=>1≤t→t≤5→∀(G G':List Frm) (n':NT) (d:Nat),qan G<t→d≤G.length→qn t G' n'=(G,left)→qlj l (t+1) i G' n'→(t=3→qn 4 G' n'=(G,left))→qct r (fun n j=>∃G2 n2,qV l d (.have_ i G' n') (.have_ j G2 n2)∧qn t G2 n2=(G,n)∧qlj l t j G2 n2) (fun j=>qbm l d (.have_ i G' n') j)
 |.fac,i,r=>∀(G:List Frm) (d:Nat),d≤G.length→qct r (fun n j=>∃G' n',qV l d (.want i G) (.have_ j G' n')∧qn 6 G' n'=qn 6 G n∧qlj l 6 j G' n') (fun j=>qbm l d (.want i G) j)
 |.part,i,r=>(isM l i [45]=false∧isM l i [33]=false)→∀(G:List Frm) (d:Nat),d≤G.length→qct r (fun n j=>qV l d (.want i G) (.have_ j G n)∧qit l j) (fun j=>qbm l d (.want i G) j)
 |.steps n0,i,r=>∀(G:List Frm) (d:Nat),d≤G.length→qct r (fun n j=>qV l d (.have_ i G n0) (.have_ j G n)∧qit l j) (fun j=>qbm l d (.have_ i G n0) j)
 |.first,i,r=>(isM l i [45]=false∧isM l i [33]=false)→∀(G:List Frm) (d:Nat),d≤G.length→qct r (fun n j=>qV l d (.want i G) (.have_ j G n)) (fun j=>qbm l d (.want i G) j)
 |.call k a,i,r=>∀(G:List Frm) (d:Nat),d≤G.length+1→qct r (fun n j=>qO l d (qaO l i k a G) (.have_ j G n)) (fun j=>qaG l d (qaO l i k a G) j)
 |.args,i,r=>∀(k a:Int) (nm:List UInt8) (ks:List NT) (G:List Frm) (d:Nat),d≤G.length+1→qiu r (fun ns j=>qO l d (qar l i k a nm ks G) (.have_ j G (.mk k a 0 nm (ks++ns)))) (fun j=>qaG l d (qar l i k a nm ks G) j)
 |.more ns0,i,r=>∀(k a:Int) (nm:List UInt8) (ks:List NT) (G:List Frm) (d:Nat),d≤G.length+1→qiu r (fun ns j=>qV l d (.want i (.arg k a nm (ks++ns0)::G)) (.have_ j G (.mk k a 0 nm (ks++ns)))) (fun j=>qbm l d (.want i (.arg k a nm (ks++ns0)::G)) j)
theorem qo{b:Bool}(h:¬b=true):b=false:=by cases b<;>simp_all
theorem qbh{l:List Tk}{i:Int}{m:List UInt8}(h:(qh l i).kind≠4):isM l i m=false:=by unfold isM;simp[h]
theorem qbE{l:List Tk}{i:Int}{m:List UInt8}(h:(qh l i).kind≠3):isW l i m=false:=by unfold isW;simp[h]
theorem qdj{l:List Tk}{i:Int}{m:List UInt8}(h:isM l i m=true):(qh l i).kind=4:=by unfold isM at h;simp at h;exact h.1
theorem qbN{l:List Tk}{i:Int}{m:List UInt8}(h:isW l i m=true):(qh l i).kind=3:=by unfold isW at h;simp at h;exact h.1
theorem qby{l:List Tk}{i:Int}{m m':List UInt8}(h:isW l i m=true)(hm:m≠m'):isW l i m'=false:=by
 unfold isW at h ⊢;simp at h ⊢;intro _;rw[h.2];exact hm
theorem qbx{l:List Tk}{i:Int}{m m':List UInt8}(h:isM l i m=true)(hm:m≠m'):isM l i m'=false:=by
 unfold isM at h ⊢;simp at h ⊢;intro _;rw[h.2];exact hm
theorem qnO{l:List Tk}{R:qL→Int→Option Res}(hR:∀m i r,R m i=some r→Sim l m i r)(t:Nat)(i:Int)(r:Res)(h:qx l R (.lev t) i=some r):Sim l (.lev t) i r:=by
 intro h1 h6 G d hG hd;simp only[qx]at h;by_cases ht:5<t
 · rw[if_pos ht]at h;obtain rfl:t=6:=by omega
   have q:=hR _ _ _ h G d hd
   cases r with
   |node n j=>
     obtain⟨G',n',q1,q2,q3⟩:=q
     exact⟨G',n',q1,q2.trans (qb5 hG),q3⟩
   |no j=>exact q
   |list ns j=>exact q
 · rw[if_neg ht]at h;rcases qA h with⟨n,j,h2,h3⟩|⟨j,h2,rfl⟩
   · obtain⟨G',n',q1,q2,q3⟩:=hR _ _ _ h2 (by omega) (by omega) G d (by omega) hd;have q4:=hR _ _ _ h3 h1 (by omega) G G' n' d hG hd (by rw[←qbY (t:=t) (t':=(t+1:Nat)) (by omega),q2];exact qb5 hG) (by simpa using q3) (fun e=>by subst e;exact q2)
     cases r with
     |node n2 k=>
       obtain⟨G2,n2',q5,q6,q7⟩:=q4
       exact⟨G2,n2',q1.trans q5,q6,q7⟩
     |no k=>exact .behind q1 q4
     |list ns k=>exact q4
   · exact hR _ _ _ h2 (by omega) (by omega) G d (by omega) hd
theorem qmD{l:List Tk}{R:qL→Int→Option Res}(hR:∀m i r,R m i=some r→Sim l m i r)(t:Nat)(left:NT)(i:Int)(r:Res)(h:qx l R (.loop t left) i=some r):Sim l (.loop t left) i r:=by
 intro h1 h5 G G' n' d hG hd hs hp h4;simp only[qx]at h;have hb:=qbR l i;have hlen:G.length≤G'.length:=by have:=qaa (t:=t) G' n';rw[hs]at this;exact this
 rw[qmz l i (by omega)]at h;obtain⟨⟨p1,p2⟩,p3⟩:=hp;by_cases hc:qH l i=t
 · have hsg:sgn (qh l i)≠0:=fun e=>by unfold qH at hc;rw[e,show qau 0=0 from rfl]at hc;omega
   rw[if_pos hc,if_neg hsg]at h
   have st:qD l (.have_ i G' n')=.go (.want (i+1) (.bin (qh l i).at_ (sgn (qh l i)) t left::G)):=by
     rw[qD];rw[if_neg (by rw[p1];decide),if_neg (by rw[p2];decide),if_neg (by omega),hc,qbY (t:=(t:Int)) (t':=(t:Int)+1) (by omega),hs,if_neg];rintro⟨e1,e2⟩;have e3:t=3:=by omega
     subst e3;rw[show((3:Nat):Int)+1=4 from rfl,h4 rfl]at e2;have e4:qan G=3:=e2;omega
   have r1:qV l d (.have_ i G' n') _:=.one (Nat.le_trans hd hlen) st;rcases qA h with⟨n,k,h2,h3⟩|⟨k,h2,rfl⟩
   · obtain⟨G2,n2,q1,q2,q3⟩:=hR _ _ _ h2 (by omega) (by omega) (.bin (qh l i).at_ (sgn (qh l i)) t left::G) d (by show(t:Int)<_;omega) (by simp;omega)
     have q4:qn t G2 n2=(G,.mk 16 (qh l i).at_ (sgn (qh l i)) [] [left,n]):=by
       rw[←qbY (t:=t) (t':=(t+1:Nat)) (by omega),q2];show qn t (.bin _ _ _ _::G) n=_
       rw[show qn t (.bin (qh l i).at_ (sgn (qh l i)) t left::G) n=qn t G _ from if_pos (Int.le_refl _),qb5 hG];rfl
     by_cases e3:t=3
     · subst e3;rw[if_pos rfl]at h3;injection h3 with h3
       subst h3;refine⟨G2,n2,r1.trans q1,q4,q3.1,?_⟩;rcases q3.2 with q5|q5
       · by_cases e5:qH l k<3
         · exact Or.inl e5
         · refine Or.inr ⟨by omega,by omega,?_⟩;have:qn 4 G2 n2=_:=q2;rw[this];rfl
       · omega
     · rw[if_neg e3]at h3;have q5:=hR _ _ _ h3 h1 h5 G G2 n2 d hG hd q4 (by simpa using q3) (fun e=>absurd e e3)
       cases r with
       |node n3 k3=>
         obtain⟨G3,n3',q6,q7,q8⟩:=q5
         exact⟨G3,n3',r1.trans (q1.trans q6),q7,q8⟩
       |no k3=>exact .behind (r1.trans q1) q5
       |list ns k3=>exact q5
   · exact .behind r1 (hR _ _ _ h2 (by omega) (by omega) (.bin (qh l i).at_ (sgn (qh l i)) t left::G) d (by show(t:Int)<_;omega) (by simp;omega))
 · rw[if_neg hc,if_pos rfl]at h;injection h with h
   subst h;refine⟨G',n',.refl _,hs,⟨p1,p2⟩,?_⟩;rcases p3 with p3|p3
   · exact Or.inl (by omega)
   · exact Or.inr ⟨by omega,p3.2⟩
theorem qnN{l:List Tk}{R:qL→Int→Option Res}(hR:∀m i r,R m i=some r→Sim l m i r)(i:Int)(r:Res)(h:qx l R .fac i=some r):Sim l .fac i r:=by
 intro G d hd;simp only[qx]at h;by_cases hc:isM l i [45]=false∧isM l i [33]=false
 · rw[if_pos hc]at h;have q:=hR _ _ _ h hc G d hd
   cases r with
   |node n j=>exact⟨G,n,q.1,rfl,q.2,Or.inl (by have:=qbR l j;omega)⟩
   |no j=>exact q
   |list ns j=>exact q
 · rw[if_neg hc]at h
   obtain⟨s,hs,st⟩:∃s:Int,(if isM l i [33]=true then(14:Int) else 2)=s∧qD l (.want i G)=.go (.want (i+1) (.un (qh l i).at_ s::G)):=by
     by_cases h33:isM l i [33]=true
     · refine⟨14,if_pos h33,?_⟩;show qJ l i G=_
       unfold qJ;rw[if_neg (by rw[qbx h33 (by decide)];decide),if_neg (by rw[qbx h33 (by decide)];decide),if_pos h33]
     · have h45:isM l i [45]=true:=by
         cases hx:isM l i [45]with
         |true=>rfl
         |false=>exact absurd ⟨hx,qo h33⟩ hc
       refine⟨2,if_neg h33,?_⟩;show qJ l i G=_
       unfold qJ;rw[if_neg (by rw[qbx h45 (by decide)];decide),if_pos h45]
   rw[hs]at h;rcases qA h with⟨n,j,h2,h3⟩|⟨j,h2,rfl⟩
   · obtain⟨G',n',q1,q2,q3⟩:=hR _ _ _ h2 (.un (qh l i).at_ s::G) d (by simp;omega);injection h3 with h3
     subst h3;refine⟨G',n',.step hd st q1,?_,q3⟩;rw[q2,show qn 6 (.un (qh l i).at_ s::G) n=qn 6 G _ from if_pos (Int.le_refl _)];rfl
   · exact .behind (.one hd st) (hR _ _ _ h2 (.un (qh l i).at_ s::G) d (by simp;omega))
theorem qmF{l:List Tk}{R:qL→Int→Option Res}(hR:∀m i r,R m i=some r→Sim l m i r)(i:Int)(r:Res)(h:qx l R .part i=some r):Sim l .part i r:=by
 intro hc G d hd;simp only[qx]at h;rcases qA h with⟨n,j,h2,h3⟩|⟨j,h2,rfl⟩
 · have q1:=hR _ _ _ h2 hc G d hd;have q2:=hR _ _ _ h3 G d hd
   cases r with
   |node n2 k=>exact⟨qV.trans q1 q2.1,q2.2⟩
   |no k=>exact .behind q1 q2
   |list ns k=>exact q2
 · exact hR _ _ _ h2 hc G d hd
theorem qk9{l:List Tk}{R:qL→Int→Option Res}(hR:∀m i r,R m i=some r→Sim l m i r)(n0:NT)(i:Int)(r:Res)(h:qx l R (.steps n0) i=some r):Sim l (.steps n0) i r:=by
 intro G d hd;simp only[qx]at h;by_cases hdot:isM l i [46]=true
 · rw[if_pos hdot]at h;have hn:=qbx hdot (m':=[91]) (by decide);by_cases hk:(qh l (i+1)).kind=1
   · rw[if_pos hk]at h
     have st:qD l (.have_ i G n0)=.go (.have_ (i+2) G (.mk 14 (qh l i).at_ 0 (qh l (i+1)).text [n0])):=by
       rw[qD];rw[if_neg (by rw[hn];decide),if_pos hdot,if_pos hk]
     have q:=hR _ _ _ h G d hd
     cases r with
     |node n2 k=>exact⟨.step hd st q.1,q.2⟩
     |no k=>exact .behind (.one hd st) q
     |list ns k=>exact q
   · rw[if_neg hk]at h;injection h with h
     subst h;refine .at_ hd ?_;rw[qD];rw[if_neg (by rw[hn];decide),if_pos hdot,if_neg hk]
 · rw[if_neg hdot]at h;by_cases hbr:isM l i [91]=false
   · rw[if_pos hbr]at h;injection h with h
     subst h;exact⟨.refl _,hbr,qo hdot⟩
   · rw[if_neg hbr]at h;have hbr':isM l i [91]=true:=by cases hx:isM l i [91]<;>simp_all
     have st:qD l (.have_ i G n0)=.go (.want (i+1) (.idx (qh l i).at_ n0::G)):=by
       rw[qD];rw[if_pos hbr']
     have hG1:qan (.idx (qh l i).at_ n0::G)<((1:Nat):Int):=by show(0:Int)<1;omega
     have hd1:d≤(Frm.idx (qh l i).at_ n0::G).length:=by simp;omega
     rcases qA h with⟨x,k,h2,h3⟩|⟨k,h2,rfl⟩
     · obtain⟨G',n',q1,q2,q3⟩:=hR _ _ _ h2 (by omega) (by omega) (.idx (qh l i).at_ n0::G) d hG1 hd1;have hlen:d≤G'.length:=by have:=qaa (t:=((1:Nat):Int)) G' n';rw[q2]at this;exact Nat.le_trans hd1 this
       have st2:=qcH q3;rw[show qn 1 G' n'=_ from q2]at st2;rw[qbU]at st2;rw[if_neg (by simp[Frm.many])]at st2;by_cases hsh:isM l k [93]=true
       · rw[if_pos hsh]at h3;rw[if_pos (by exact hsh)]at st2;have q:=hR _ _ _ h3 G d hd
         cases r with
         |node n2 k2=>exact⟨.step hd st (q1.trans (.step hlen st2 q.1)),q.2⟩
         |no k2=>exact .behind (.step hd st (q1.trans (.one hlen st2))) q
         |list ns k2=>exact q
       · rw[if_neg hsh]at h3;rw[if_neg (by exact hsh)]at st2;injection h3 with h3
         subst h3;exact .behind (.step hd st q1) (.at_ hlen st2)
     · exact .behind (.one hd st) (hR _ _ _ h2 (by omega) (by omega) (.idx (qh l i).at_ n0::G) d hG1 hd1)
theorem qk6{l:List Tk}{R:qL→Int→Option Res}(hR:∀m i r,R m i=some r→Sim l m i r)(hT:∀i r,R .typ i=some r→qaV l i=r∧qct r (fun _ _=>True) (fun _=>True))(i:Int)(r:Res)(h:qx l R .first i=some r):Sim l .first i r:=by
 intro hc G d hd;simp only[qx]at h;have key:∀o,qD l (.want i G)=o→(∀n j,o=.go (.have_ j G n)→qV l d (.want i G) (.have_ j G n)):=fun o e n j e2=>.one hd (e.trans e2);have b0:qD l (.want i G)=qJ l i G:=rfl;unfold qJ at b0;rw[if_neg (c:=isM l i [45]=true) (by rw[hc.1];decide),if_neg (c:=isM l i [33]=true) (by rw[hc.2];decide)]at b0;by_cases h2:(qh l i).kind=2
 · rw[if_pos h2]at h;injection h with h
   subst h;rw[if_neg (by rw[qbh (by omega)];decide),if_neg (by rw[qbE (by omega)];decide),if_neg (by rw[qbE (by omega)];decide),if_pos h2]at b0;exact .one hd b0
 rw[if_neg h2]at h b0;by_cases ht:isW l i qb4=true
 · rw[if_pos ht]at h;injection h with h
   subst h;have hk:=qbN ht;rw[if_neg (by rw[qbh (by omega)];decide),if_neg (by rw[qby ht (by decide)];decide),if_neg (by rw[qby ht (by decide)];decide),if_pos ht]at b0;exact .one hd b0
 rw[if_neg ht]at h b0;by_cases hf:isW l i qbu=true
 · rw[if_pos hf]at h;injection h with h
   subst h;have hk:=qbN hf;rw[if_neg (by rw[qbh (by omega)];decide),if_neg (by rw[qby hf (by decide)];decide),if_neg (by rw[qby hf (by decide)];decide),if_pos hf]at b0;exact .one hd b0
 rw[if_neg hf]at h b0;by_cases h1:(qh l i).kind=1
 · rw[if_pos h1]at h;rw[if_neg (c:=isM l i [40]=true) (by rw[qbh (by omega)];decide),if_neg (by rw[qbE (by omega)];decide),if_neg (by rw[qbE (by omega)];decide),if_pos h1]at b0;by_cases hp:isM l (i+1) [40]=true
   · rw[if_pos hp]at h b0;have q:=hR _ _ _ h G d (by omega)
     cases r with
     |node n j=>exact qO.on (s:=.want i G) hd b0 q
     |no j=>exact qaG.on (s:=.want i G) hd b0 q
     |list ns j=>exact q
   · rw[if_neg hp]at h b0;injection h with h
     subst h;exact .one hd b0
 rw[if_neg h1]at h b0;by_cases hfk:isW l i qec=true
 · rw[if_pos hfk]at h;have hk:=qbN hfk;rw[if_neg (by rw[qbh (by omega)];decide),if_pos hfk]at b0;have q:=hR _ _ _ h G d (by omega)
   cases r with
   |node n j=>exact qO.on (s:=.want i G) hd b0 q
   |no j=>exact qaG.on (s:=.want i G) hd b0 q
   |list ns j=>exact q
 rw[if_neg hfk]at h b0;by_cases hnw:isW l i qgP=true
 · rw[if_pos hnw]at h;have hk:=qbN hnw;rw[if_neg (by rw[qbh (by omega)];decide),if_pos hnw]at b0;rcases qA h with⟨n,j,h3,h4⟩|⟨j,h3,rfl⟩
   · rw[(hT _ _ h3).1]at b0;rcases qbe h4 with⟨ns,k,h5,h6⟩|⟨k,h5,rfl⟩
     · injection h6 with h6
       subst h6;have q:=hR _ _ _ h5 19 (qh l i).at_ [] [n] G d (by omega);exact qO.on (s:=.want i G) hd b0 q
     · have q:=hR _ _ _ h5 19 (qh l i).at_ [] [n] G d (by omega);exact qaG.on (s:=.want i G) hd b0 q
   · rw[(hT _ _ h3).1]at b0;exact .at_ hd b0
 rw[if_neg hnw]at h b0;by_cases hp:isM l i [40]=false
 · rw[if_pos hp]at h;rw[if_neg (by rw[hp];decide)]at b0;injection h with h
   subst h;exact .at_ hd b0
 · rw[if_neg hp]at h;have hp':isM l i [40]=true:=by cases hx:isM l i [40]<;>simp_all
   rw[if_pos hp']at b0;have hG1:qan (.brk::G)<((1:Nat):Int):=by show(0:Int)<1;omega
   have hd1:d≤(Frm.brk::G).length:=by simp;omega
   rcases qA h with⟨x,k,h3,h4⟩|⟨k,h3,rfl⟩
   · obtain⟨G',n',q1,q2,q3⟩:=hR _ _ _ h3 (by omega) (by omega) (.brk::G) d hG1 hd1;have hlen:d≤G'.length:=by have:=qaa (t:=((1:Nat):Int)) G' n';rw[q2]at this;exact Nat.le_trans hd1 this
     have st2:=qcH q3;rw[show qn 1 G' n'=_ from q2]at st2;rw[qbU]at st2;rw[if_neg (by simp[Frm.many])]at st2;by_cases hsh:isM l k [41]=true
     · rw[if_pos hsh]at h4;rw[if_pos (by exact hsh)]at st2;injection h4 with h4
       subst h4;exact .step hd b0 (q1.trans (.one hlen st2))
     · rw[if_neg hsh]at h4;rw[if_neg (by exact hsh)]at st2;injection h4 with h4
       subst h4;exact .behind (.step hd b0 q1) (.at_ hlen st2)
   · exact .behind (.one hd b0) (hR _ _ _ h3 (by omega) (by omega) (.brk::G) d hG1 hd1)
theorem qmC{l:List Tk}{R:qL→Int→Option Res}(hR:∀m i r,R m i=some r→Sim l m i r)(k a:Int)(i:Int)(r:Res)(h:qx l R (.call k a) i=some r):Sim l (.call k a) i r:=by
 intro G d hd;simp only[qx]at h;unfold qaO;by_cases h1:(qh l i).kind=1
 · rw[if_pos h1]at h;rw[if_pos h1];rcases qbe h with⟨ns,j,h2,h3⟩|⟨j,h2,rfl⟩
   · injection h3 with h3
     subst h3;exact hR _ _ _ h2 k a (qh l i).text [] G d hd
   · exact hR _ _ _ h2 k a (qh l i).text [] G d hd
 · rw[if_neg h1]at h;rw[if_neg h1];injection h with h
   subst h;exact Or.inl rfl
theorem qmB{l:List Tk}{R:qL→Int→Option Res}(hR:∀m i r,R m i=some r→Sim l m i r)(i:Int)(r:Res)(h:qx l R .args i=some r):Sim l .args i r:=by
 intro k a nm ks G d hd;simp only[qx]at h;unfold qar;by_cases hp:isM l i [40]=false
 · rw[if_pos hp]at h;injection h with h
   subst h;rw[if_neg (by rw[hp];decide)];exact Or.inl rfl
 · rw[if_neg hp]at h;have hp':isM l i [40]=true:=by cases hx:isM l i [40]<;>simp_all
   rw[if_pos hp'];by_cases hc:isM l (i+1) [41]=true
   · rw[if_pos hc]at h;rw[if_pos hc];injection h with h
     subst h;refine⟨_,rfl,?_⟩;rw[List.append_nil];exact .refl _
   · rw[if_neg hc]at h;rw[if_neg hc];have q:=hR _ _ _ h k a nm ks G d hd;rw[List.append_nil]at q
     cases r with
     |list ns j=>exact⟨_,rfl,q⟩
     |no j=>exact Or.inr ⟨_,rfl,q⟩
     |node n j=>exact q
theorem qmE{l:List Tk}{R:qL→Int→Option Res}(hR:∀m i r,R m i=some r→Sim l m i r)(ns0:List NT)(i:Int)(r:Res)(h:qx l R (.more ns0) i=some r):Sim l (.more ns0) i r:=by
 intro k a nm ks G d hd;simp only[qx]at h;have hG1:qan (.arg k a nm (ks++ns0)::G)<((1:Nat):Int):=by show(0:Int)<1;omega
 have hd1:d≤(Frm.arg k a nm (ks++ns0)::G).length:=by simp;omega
 rcases qA h with⟨x,j,h3,h4⟩|⟨j,h3,rfl⟩
 · obtain⟨G',n',q1,q2,q3⟩:=hR _ _ _ h3 (by omega) (by omega) (.arg k a nm (ks++ns0)::G) d hG1 hd1;have hlen:d≤G'.length:=by have:=qaa (t:=((1:Nat):Int)) G' n';rw[q2]at this;exact Nat.le_trans hd1 this
   have st2:=qcH q3;rw[show qn 1 G' n'=_ from q2]at st2;rw[qbU]at st2;by_cases hsh:isM l j [41]=true
   · rw[if_pos hsh]at h4;rw[if_neg (by rw[qbx hsh (by decide)];simp),if_pos (by exact hsh)]at st2;injection h4 with h4
     subst h4;refine qV.trans q1 (.one hlen ?_);rw[st2];simp[Frm.close]
   · rw[if_neg hsh]at h4;by_cases hcm:isM l j [44]=false
     · rw[if_pos hcm]at h4;rw[if_neg (by rw[hcm];simp),if_neg (by exact hsh)]at st2;injection h4 with h4
       subst h4;exact .behind q1 (.at_ hlen st2)
     · rw[if_neg hcm]at h4;have hcm':isM l j [44]=true:=by cases hx:isM l j [44]<;>simp_all
       rw[if_pos ⟨rfl,hcm'⟩]at st2;have e:Frm.more x (.arg k a nm (ks++ns0))=.arg k a nm (ks++(ns0++[x])):=by show Frm.arg _ _ _ _=_;rw[List.append_assoc]
       rw[e]at st2;have q:=hR _ _ _ h4 k a nm ks G d hd
       cases r with
       |list ns k2=>exact qV.trans q1 (.step hlen st2 q)
       |no k2=>exact .behind (q1.trans (.one hlen st2)) q
       |node n k2=>exact q
 · exact hR _ _ _ h3 (by omega) (by omega) (.arg k a nm (ks++ns0)::G) d hG1 hd1
theorem qcD(l:List Tk):∀(f:Nat) (m:qL) (i:Int) (r:Res),run l f m i=some r→Sim l m i r
 |0,m,i,r,h=>by rw[run]at h;cases h
 |f+1,m,i,r,h=>by
   rw[qaF]at h;have hR:=qcD l f
   cases m with
   |typ=>trivial
   |lev t=>exact qnO hR t i r h
   |loop t n=>exact qmD hR t n i r h
   |fac=>exact qnN hR i r h
   |part=>exact qmF hR i r h
   |steps n=>exact qk9 hR n i r h
   |first=>
     refine qk6 hR (fun i r h=>?_) i r h;obtain⟨r',h'⟩:=qa2 l .typ i;obtain rfl:=qeY l h h';refine⟨by unfold qaV;rw[h'];rfl,?_⟩;have he:=qT l _ _ _ _ h
     cases r with
     |node n j=>trivial
     |no j=>trivial
     |list ns j=>simp[qej,qL.lists]at he
   |call k a=>exact qmC hR k a i r h
   |args=>exact qmB hR i r h
   |more ns=>exact qmE hR ns i r h
theorem qhA(l:List Tk)(i:Int):∃f r,run l f (.lev 1) i=some r∧qct r (fun n j=>∃G n',qV l 0 (.want i []) (.have_ j G n')∧qD l (.have_ j G n')=.over n j) (fun j=>qbm l 0 (.want i []) j):=by
 obtain⟨r,h⟩:=qa2 l (.lev 1) i;refine⟨_,r,h,?_⟩;have q:=qcD l _ _ _ _ h (by omega) (by omega) [] 0 (by show(0:Int)<1;omega) qe
 cases r with
 |node n j=>
   obtain⟨G',n',q1,q2,q3⟩:=q
   exact⟨G',n',q1,by rw[qcH q3,show qn 1 G' n'=_ from q2];rfl⟩
 |no j=>exact q
 |list ns j=>exact q
theorem qlr(l:List Tk)(i:Int):∃f r,run l f .args i=some r∧qiu r (fun ns j=>qO l 1 (qar l i 17 0 [] [] []) (.have_ j [] (.mk 17 0 0 [] ns))) (fun j=>qaG l 1 (qar l i 17 0 [] [] []) j):=by
 obtain⟨r,h⟩:=qa2 l .args i;exact⟨_,r,h,qcD l _ _ _ _ h 17 0 [] [] [] 1 qe⟩
end Go.Proofs.YtdndfifkfjoffaaGreatDoor.pm.em

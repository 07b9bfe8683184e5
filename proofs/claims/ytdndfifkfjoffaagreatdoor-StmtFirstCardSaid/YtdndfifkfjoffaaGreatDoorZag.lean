/- The document's own looks at a token: which one, is it such a mark, such a word. (and what it stands on) -/
import Derived.Test.YtdndfifkfjoffaaGreatDoorZae
import Derived.Test.YtdndfifkfjoffaaGreatDoorZaf
import Derived.Test.YtdndfifkfjoffaaGreatDoorZac
import Derived.Test.YtdndfifkfjoffaaGreatDoorZaa
set_option maxRecDepth 100000
set_option maxHeartbeats 4000000
namespace Go.Proofs.YtdndfifkfjoffaaGreatDoor.pm.sx
open Go.RowKit wd lx nt ne pm
structure St where
 i:Int
 G:List NT
 z:Option NT
inductive Out where
 |go(s:St)
 |no(j:Int)
def exR(l:List Tk)(i:Int):Res:=(E l (.lev 1) i).getD (.no i)
def arR(l:List Tk)(i:Int):Res:=(E l .args i).getD (.no i)
def tyR(l:List Tk)(i:Int):Res:=(E l .typ i).getD (.no i)
theorem qhy(l:List Tk)(i:Int):E l (.lev 1) i=some (exR l i):=by
 obtain⟨r,h⟩:=qa2 l (.lev 1) i;have h':E l (.lev 1) i=some r:=h;unfold exR;rw[h'];rfl
theorem qlo(l:List Tk)(i:Int):E l .args i=some (arR l i):=by
 obtain⟨r,h⟩:=qa2 l .args i;have h':E l .args i=some r:=h;unfold arR;rw[h'];rfl
theorem qgk(l:List Tk)(i:Int):E l .typ i=some (tyR l i):=by
 obtain⟨r,h⟩:=qa2 l .typ i;have h':E l .typ i=some r:=h;unfold tyR;rw[h'];rfl
theorem qgv{l:List Tk}{i:Int}{f:Nat}{r:Res}(h:run l f (.lev 1) i=some r):exR l i=r:=by
 have:=qlh h;rw[qhy]at this;injection this
theorem qlp{l:List Tk}{i:Int}{f:Nat}{r:Res}(h:run l f .args i=some r):arR l i=r:=by
 have:=qlh h;rw[qlo]at this;injection this
theorem qmW{l:List Tk}{i:Int}{f:Nat}{r:Res}(h:run l f .typ i=some r):tyR l i=r:=by
 have:=qlh h;rw[qgk]at this;injection this
theorem qbD(l:List Tk)(i:Int):qej l.length (.lev 1) i (exR l i):=qT l _ _ _ _ (qhy l i)
theorem qhf(l:List Tk)(i:Int):qej l.length .args i (arR l i):=qT l _ _ _ _ (qlo l i)
theorem qdc(l:List Tk)(i:Int):qej l.length .typ i (tyR l i):=qT l _ _ _ _ (qgk l i)
def onN(r:Res)(k:NT→Int→Out):Out:=
 match r with
 |.node n j=>k n j
 |.list _ j=>.no j
 |.no j=>.no j
def add(f n:NT):NT:=.mk f.kind f.at_ f.num f.name (f.kids++[n])
def qkV(n:NT):List NT→List NT
 |[]=>[]
 |f::G=>add f n::G
def qos(n:NT):List NT→Option NT→Option NT
 |[],_=>some n
 |_::_,z=>z
def put(i:Int)(n:NT)(G:List NT)(z:Option NT):Out:=.go ⟨i,qkV n G,qos n G z⟩
def qcV(l:List Tk)(i:Int)(n:NT)(G:List NT)(z:Option NT):Out:=if isM l i [59]=true then put (i+1) n G z else .no i
def qbp(l:List Tk)(i:Int)(k:NT→NT)(G:List NT)(z:Option NT):Out:=onN (exR l i) fun n j=>qcV l j (k n) G z
def qa5(l:List Tk)(i:Int)(G:List NT)(z:Option NT):Out:=if isM l i [123]=true then .go ⟨i+1,.mk 30 (qh l i).at_ 0 [] []::G,z⟩ else .no i
def qbT(l:List Tk)(i k a:Int)(G:List NT)(z:Option NT):Out:=onN (exR l i) fun n j=>qa5 l j (.mk k a 0 [] [n]::G) z
def qbK(l:List Tk)(i:Int)(G:List NT)(z:Option NT):Out:=if isW l i sIf=true then qbT l (i+1) 33 (qh l i).at_ G z else .no i
def qcb(l:List Tk)(i:Int)(G:List NT)(z:Option NT):Out:=if isW l i sIf=true then qbK l i G z else qa5 l i G z
def qmZ(l:List Tk)(i a:Int)(G:List NT)(z:Option NT):Out:=
 if (qh l i).kind=1 then(if isM l (i+1) [61]=true then qbp l (i+2) (fun n=>.mk 31 a 0 (qh l i).text [n]) G z else .no (i+1)) else .no i
def qfU(l:List Tk)(i a:Int)(G:List NT)(z:Option NT):Out:=
 if isM l i [59]=true then qcV l i (.mk 35 a 0 [] []) G z else qbp l i (fun n=>.mk 35 a 0 [] [n]) G z
def qhR(l:List Tk)(i a:Int)(G:List NT)(z:Option NT):Out:=
 if (qh l i).kind=1 then qcV l (i+1) (.mk 36 a 0 (qh l i).text []) G z else .no i
def qaO(l:List Tk)(i a:Int)(nm:List UInt8)(G:List NT)(z:Option NT):Out:=
 match arR l i with
 |.list ns j=>qcV l j (.mk 38 a 0 [] [.mk 17 a 0 nm ns]) G z
 |.node _ j=>.no j
 |.no j=>.no j
def plF(l:List Tk):Nat→Int→NT→Option Res
 |0,_,_=>none
 |f+1,i,n=>
   if isM l i [91]=true then qba (some (exR l (i+1))) fun x j=>if isM l j [93]=true then plF l f (j+1) (.mk 13 (qh l i).at_ 0 [] [n,x]) else some (.no j)
   else if isM l i [46]=true then(if (qh l (i+1)).kind=1 then plF l f (i+2) (.mk 14 (qh l i).at_ 0 (qh l (i+1)).text [n]) else some (.no (i+1)))
   else some (.node n i)
theorem qfw(l:List Tk):∀(f:Nat) (i:Int) (n:NT),Le (plF l f i n) (plF l (f+1) i n)
 |0,i,n=>fun r h=>by rw[plF]at h;cases h
 |f+1,i,n=>by
   rw[plF,plF];exact qY (qa8 .rfl fun x j=>qY (qfw l f _ _) .rfl) (qY (qY (qfw l f _ _) .rfl) .rfl)
theorem qmk(l:List Tk){f f':Nat}(hf:f≤f')(i:Int)(n:NT):Le (plF l f i n) (plF l f' i n):=by
 obtain⟨d,rfl⟩:∃d,f'=f+d:=⟨f'-f,by omega⟩;clear hf
 induction d with
 |zero=>exact .rfl
 |succ d ih=>exact fun r h=>qfw l (f+d) i n r (ih r h)
theorem qgJ(l:List Tk):∀(f:Nat) (i:Int) (n:NT),0≤i→((l.length:Int)-i).toNat<f→∃r,plF l f i n=some r
 |0,i,n,h0,h=>by omega
 |f+1,i,n,h0,h=>by
   rw[plF];by_cases h1:isM l i [91]=true
   · rw[if_pos h1];have hin:=qu h1;have he:=qbD l (i+1)
     cases hx:exR l (i+1)with
     |node x j=>
       rw[hx]at he;obtain⟨_,e1,e2,e3⟩:=he;show ∃r,(if isM l j [93]=true then plF l f (j+1) _ else some (.no j))=some r
       by_cases h2:isM l j [93]=true
       · rw[if_pos h2];have hin2:=qu h2;exact qgJ l f (j+1) _ (by omega) (by omega)
       · rw[if_neg h2];exact⟨_,rfl⟩
     |list ns j=>rw[hx]at he;exact absurd he.1 (by simp[qL.lists])
     |no j=>exact⟨_,rfl⟩
   · rw[if_neg h1];by_cases h2:isM l i [46]=true
     · rw[if_pos h2];have hin:=qu h2;by_cases h3:(qh l (i+1)).kind=1
       · rw[if_pos h3];have hin2:=qC (l:=l) (i:=i+1) (by rw[h3];decide);exact qgJ l f (i+2) _ (by omega) (by omega)
       · rw[if_neg h3];exact⟨_,rfl⟩
     · rw[if_neg h2];exact⟨_,rfl⟩
def plR(l:List Tk)(i:Int)(n:NT):Res:=(plF l (l.length+1) i n).getD (.no i)
theorem qgc{l:List Tk}{i:Int}{n:NT}(h:0≤i):plF l (l.length+1) i n=some (plR l i n):=by
 obtain⟨r,hr⟩:=qgJ l (l.length+1) i n h (by omega);unfold plR;rw[hr];rfl
theorem qev{l:List Tk}{i:Int}{n:NT}{f:Nat}{r:Res}(h0:0≤i)(h:plF l f i n=some r):plR l i n=r:=by
 have h1:=qmk l (Nat.le_max_left f (l.length+1)) i n r h;have h2:=qmk l (Nat.le_max_right f (l.length+1)) i n _ (qgc h0);rw[h1]at h2;exact(Option.some.inj h2).symm
theorem qfy(l:List Tk):∀(f:Nat) (i:Int) (n m:NT) (j:Int),plF l f i n=some (.node m j)→i≤j
 |0,i,n,m,j,h=>by rw[plF]at h;cases h
 |f+1,i,n,m,j,h=>by
   rw[plF]at h;by_cases h1:isM l i [91]=true
   · rw[if_pos h1]at h;have he:=qbD l (i+1)
     cases hx:exR l (i+1)with
     |node x k=>
       rw[hx]at he h;have h:(if isM l k [93]=true then plF l f (k+1) (.mk 13 (qh l i).at_ 0 [] [n,x]) else some (.no k))=some (.node m j):=h;by_cases h2:isM l k [93]=true
       · rw[if_pos h2]at h;have:=qfy l f _ _ _ _ h;have:=he.2.1;omega
       · rw[if_neg h2]at h;cases h
     |list ns k=>rw[hx]at h;cases h
     |no k=>rw[hx]at h;cases h
   · rw[if_neg h1]at h;by_cases h2:isM l i [46]=true
     · rw[if_pos h2]at h;by_cases h3:(qh l (i+1)).kind=1
       · rw[if_pos h3]at h;have:=qfy l f _ _ _ _ h;omega
       · rw[if_neg h3]at h;cases h
     · rw[if_neg h2]at h;cases h;exact Int.le_refl _
theorem qnB{l:List Tk}{i j:Int}{n m:NT}(h0:0≤i)(h:plR l i n=.node m j):i≤j:=qfy l _ i n m j (by rw[qgc h0,h])
theorem qml{l:List Tk}{i:Int}{n:NT}(h0:0≤i)(h1:isM l i [91]=false)(h2:isM l i [46]=false):plR l i n=.node n i:=
 qev (f:=1) h0 (by rw[plF,if_neg (by rw[h1];decide),if_neg (by rw[h2];decide)])
theorem qkO{l:List Tk}{i:Int}{n:NT}(h2:isM l i [46]=true)(h3:(qh l (i+1)).kind=1):plR l i n=plR l (i+2) (.mk 14 (qh l i).at_ 0 (qh l (i+1)).text [n]):=by
 have hin:=qu h2;refine qev (f:=l.length+1+1) hin.1 ?_;rw[plF,if_neg (by rw[em.qbx h2 (by decide)];decide),if_pos h2,if_pos h3];exact qgc (by omega)
theorem qh4{l:List Tk}{i:Int}{n:NT}(h2:isM l i [46]=true)(h3:¬(qh l (i+1)).kind=1):plR l i n=.no (i+1):=by
 have hin:=qu h2;refine qev (f:=1) hin.1 ?_;rw[plF,if_neg (by rw[em.qbx h2 (by decide)];decide),if_pos h2,if_neg h3]
theorem qkP{l:List Tk}{i j:Int}{n x:NT}(h1:isM l i [91]=true)(hx:exR l (i+1)=.node x j)(h2:isM l j [93]=true):plR l i n=plR l (j+1) (.mk 13 (qh l i).at_ 0 [] [n,x]):=by
 have hin:=qu h1;have hin2:=qu h2;refine qev (f:=l.length+1+1) hin.1 ?_;rw[plF,if_pos h1,hx];show(if isM l j [93]=true then plF l (l.length+1) (j+1) _ else some (.no j))=_
 rw[if_pos h2];exact qgc (by omega)
theorem qi8{l:List Tk}{i j:Int}{n x:NT}(h1:isM l i [91]=true)(hx:exR l (i+1)=.node x j)(h2:¬isM l j [93]=true):plR l i n=.no j:=by
 have hin:=qu h1;refine qev (f:=1) hin.1 ?_;rw[plF,if_pos h1,hx];show(if isM l j [93]=true then plF l 0 (j+1) _ else some (.no j))=_
 rw[if_neg h2]
theorem qi7{l:List Tk}{i j:Int}{n:NT}(h1:isM l i [91]=true)(hx:exR l (i+1)=.no j):plR l i n=.no j:=by
 have hin:=qu h1;refine qev (f:=1) hin.1 ?_;rw[plF,if_pos h1,hx];rfl
def qmy(l:List Tk)(r:Res)(G:List NT)(z:Option NT):Out:=
 onN r fun n j=>if isM l j [61]=true then qbp l (j+1) (fun x=>.mk 32 (qh l j).at_ 0 [] [n,x]) G z else .no j
def qcY(l:List Tk)(i:Int)(G:List NT)(z:Option NT):Out:=
 if (qh l i).kind=1 then
   (if isM l (i+1) [40]=true then qaO l (i+1) (qh l i).at_ (qh l i).text G z else qmy l (plR l (i+1) (.mk 12 (qh l i).at_ 0 (qh l i).text [])) G z)
 else .no i
def qJ(l:List Tk)(i:Int)(G:List NT)(z:Option NT):Out:=
 if isM l i [123]=true then qa5 l i G z
 else if isW l i sIf=true then qbK l i G z
 else if isW l i qcF=true then qbT l (i+1) 34 (qh l i).at_ G z
 else if isW l i qgQ=true then qmZ l (i+1) (qh l i).at_ G z
 else if isW l i qbM=true then qfU l (i+1) (qh l i).at_ G z
 else if isW l i qed=true then qhR l (i+1) (qh l i).at_ G z
 else if isW l i qcE=true then qbp l (i+1) (fun n=>.mk 37 (qh l i).at_ 0 [] [n]) G z
 else qcY l i G z
def qD(l:List Tk):St→Out
 |⟨i,[],_⟩=>.no i
 |⟨i,f::G,z⟩=>
   if f.kind=30∧isM l i [125]=false then qJ l i (f::G) z
   else if f.kind=30 then put (i+1) f G z
   else if f.kind=33∧f.kids.length=2∧isW l i qcL=true then qcb l (i+1) (f::G) z
   else put i f G z
theorem qbl(l:List Tk)(i:Int)(f:NT)(G:List NT)(z:Option NT):qD l ⟨i,f::G,z⟩=(if f.kind=30∧isM l i [125]=false then qJ l i (f::G) z
   else if f.kind=30 then put (i+1) f G z
   else if f.kind=33∧f.kids.length=2∧isW l i qcL=true then qcb l (i+1) (f::G) z
   else put i f G z):=rfl
inductive qV(l:List Tk)(d:Nat):Nat→St→St→Prop
 |refl (s:St):qV l d 0 s s
 |step {k:Nat} {s s1 s2:St}:d<s.G.length→qD l s=.go s1→qV l d k s1 s2→qV l d (k+1) s s2
theorem qV.trans{l:List Tk}{d k k2:Nat}{s s1 s2:St}(h:qV l d k s s1)(h2:qV l d k2 s1 s2):∃k3,qV l d k3 s s2:=by
 induction h with
 |refl _=>exact⟨_,h2⟩
 |step hd hs _ ih=>obtain⟨k3,h3⟩:=ih h2;exact⟨_,.step hd hs h3⟩
theorem qV.deep{l:List Tk}{d d' k:Nat}{s s1:St}(hd:d'≤d)(h:qV l d k s s1):qV l d' k s s1:=by
 induction h with
 |refl _=>exact .refl _
 |step h1 h2 _ ih=>exact .step (by omega) h2 ih
def qbm(l:List Tk)(d:Nat)(s:St)(j:Int):Prop:=∃k s',qV l d k s s'∧d<s'.G.length∧qD l s'=.no j
def qO(l:List Tk)(d:Nat)(o:Out)(s:St):Prop:=∃s1 k,o=.go s1∧qV l d k s1 s
def qaG(l:List Tk)(d:Nat)(o:Out)(j:Int):Prop:=o=.no j∨∃s1,o=.go s1∧qbm l d s1 j
theorem qO.deep{l:List Tk}{d d':Nat}{o:Out}{s:St}(hd:d'≤d)(h:qO l d o s):qO l d' o s:=by
 obtain⟨s1,k,e,h⟩:=h;exact⟨s1,k,e,h.deep hd⟩
theorem qaG.deep{l:List Tk}{d d':Nat}{o:Out}{j:Int}(hd:d'≤d)(h:qaG l d o j):qaG l d' o j:=by
 rcases h with h|⟨s1,e,k,s',h1,h2,h3⟩
 · exact Or.inl h
 · exact Or.inr ⟨s1,e,k,s',h1.deep hd,by omega,h3⟩
theorem qO.on{l:List Tk}{d:Nat}{o:Out}{s1 s:St}(h:qO l d o s1)(hd:d<s1.G.length)(h2:qO l d (qD l s1) s):qO l d o s:=by
 obtain⟨t,k,e,h⟩:=h;obtain⟨t2,k2,e2,h2⟩:=h2;obtain⟨k3,h3⟩:=h.trans (.step hd e2 h2);exact⟨t,k3,e,h3⟩
theorem qO.fail{l:List Tk}{d:Nat}{o:Out}{s1:St}{j:Int}(h:qO l d o s1)(hd:d<s1.G.length)(h2:qaG l d (qD l s1) j):qaG l d o j:=by
 obtain⟨t,k,e,h⟩:=h;rcases h2 with h2|⟨t2,e2,k2,s',h2,h3,h4⟩
 · exact Or.inr ⟨t,e,k,s1,h,hd,h2⟩
 · obtain⟨k3,h5⟩:=h.trans (.step hd e2 h2);exact Or.inr ⟨t,e,k3,s',h5,h3,h4⟩
theorem qO.at_(l:List Tk)(d:Nat)(s:St):qO l d (.go s) s:=⟨s,0,rfl,.refl _⟩
def On(l:List Tk)(G:List NT)(z:Option NT)(o:Out):Res→Prop
 |.node n j=>qO l G.length o ⟨j,qkV n G,qos n G z⟩
 |.no j=>qaG l G.length o j
 |.list _ _=>False
theorem On.end_{l:List Tk}{R:SM→Int→Option Res}{i:Int}{n:NT}{G:List NT}{z:Option NT}{r:Res}(h:ev l R (qbG [59] (.done n)) i=some r):On l G z (qcV l i n G z) r:=by
 simp only[qbG,ev]at h;unfold qcV;by_cases h1:isM l i [59]=true
 · rw[if_pos (show tM [59] (qh l i)=true from h1),if_neg (qS h1)]at h;cases h
   rw[if_pos h1];exact qO.at_ _ _ _
 · rw[if_neg (show ¬tM [59] (qh l i)=true from h1)]at h;cases h
   rw[if_neg h1];exact Or.inl rfl
theorem On.exp{l:List Tk}{f:NT→Int→Option Res}{i:Int}{K:NT→Int→Out}{G:List NT}{z:Option NT}{r:Res}(h:qba (E l (.lev 1) i) f=some r)(hk:∀n j r,exR l i=.node n j→f n j=some r→On l G z (K n j) r):On l G z (onN (exR l i) K) r:=by
 rw[qhy]at h
 cases he:exR l i with
 |node n j=>rw[he]at h;exact hk n j r he h
 |list ns j=>rw[he]at h;cases h
 |no j=>rw[he]at h;cases h;exact Or.inl rfl
theorem On.close{l:List Tk}{R:SM→Int→Option Res}{i:Int}{k:NT→NT}{G:List NT}{z:Option NT}{r:Res}(h:ev l R (qiG k) i=some r):On l G z (qbp l i k G z) r:=by
 simp only[qiG,ev]at h;exact On.exp h fun n j r _ h=>On.end_ (R:=R) h
def OnH(l:List Tk)(k i:Int)(G:List NT)(z:Option NT):Res→Prop
 |.node n j=>∃x b,n=.mk k (qh l i).at_ 0 [] [x,b]∧qO l G.length (qbT l (i+1) k (qh l i).at_ G z) ⟨j,.mk k (qh l i).at_ 0 [] [x,b]::G,z⟩
 |.no j=>qaG l G.length (qbT l (i+1) k (qh l i).at_ G z) j
 |.list _ _=>False
structure qg9(l:List Tk)(R:SM→Int→Option Res):Prop where
 S:∀i G z r,R .stmt i=some r→On l G z (qJ l i G z) r
 B:∀i G z r,R .block i=some r→On l G z (qa5 l i G z) r
 K:∀i a ns G z r,R (.blk a ns) i=some r→On l G z (.go ⟨i,.mk 30 a 0 [] ns::G,z⟩) r
 H:∀k i G z r,R (.headed k) i=some r→(qh l i).kind≠0→OnH l k i G z r
 C:∀i G z r,R .choice i=some r→isW l i sIf=true→On l G z (qbK l i G z) r
 N:∀i G z r,R .named i=some r→On l G z (qcY l i G z) r
 L:∀i n G z r,R (.place n) i=some r→0≤i→On l G z (qmy l (plR l i n) G z) r
theorem qk5{l:List Tk}{R:SM→Int→Option Res}(hR:qg9 l R)(i:Int)(G:List NT)(z:Option NT)(r:Res)(h:ev l R (prog .block) i=some r):On l G z (qa5 l i G z) r:=by
 simp only[prog,ev]at h;unfold qa5;by_cases h1:isM l i [123]=true
 · rw[if_pos (show tM [123] (qh l i)=true from h1),if_neg (qS h1)]at h;rw[if_pos h1];exact hR.K _ _ _ _ _ _ h
 · rw[if_neg (show ¬tM [123] (qh l i)=true from h1)]at h;cases h
   rw[if_neg h1];exact Or.inl rfl
theorem qnM{l:List Tk}{R:SM→Int→Option Res}(hR:qg9 l R)(i a:Int)(ns:List NT)(G:List NT)(z:Option NT)(r:Res)(h:ev l R (prog (.blk a ns)) i=some r):On l G z (.go ⟨i,.mk 30 a 0 [] ns::G,z⟩) r:=by
 simp only[prog,ev]at h;by_cases h1:isM l i [125]=true
 · rw[if_pos (show tM [125] (qh l i)=true from h1),if_neg (qS h1)]at h;cases h
   refine(qO.at_ l G.length ⟨i,.mk 30 a 0 [] ns::G,z⟩).on (by simp) ?_;rw[qbl,if_neg (by rw[h1];simp),if_pos (show(NT.mk 30 a 0 [] ns).kind=30 from rfl)];exact qO.at_ _ _ _
 · rw[if_neg (show ¬tM [125] (qh l i)=true from h1)]at h
   have hst:qD l ⟨i,.mk 30 a 0 [] ns::G,z⟩=qJ l i (.mk 30 a 0 [] ns::G) z:=by
     rw[qbl,if_pos ⟨rfl,em.qo h1⟩]
   rcases qA h with⟨n,j,ho,hr⟩|⟨j,ho,rfl⟩
   · have h2:=(hR.S _ (.mk 30 a 0 [] ns::G) z _ ho);have h2:qO l (G.length+1) (qJ l i (.mk 30 a 0 [] ns::G) z) ⟨j,.mk 30 a 0 [] (ns++[n])::G,z⟩:=h2;have h3:=hR.K j a (ns++[n]) G z r hr;have h4:qO l G.length (.go ⟨i,.mk 30 a 0 [] ns::G,z⟩) ⟨j,.mk 30 a 0 [] (ns++[n])::G,z⟩:=(qO.at_ l G.length ⟨i,.mk 30 a 0 [] ns::G,z⟩).on (by simp) (by rw[hst];exact h2.deep (by omega))
     cases r with
     |node m j2=>
       obtain⟨s1,k,e,h5⟩:=h3;cases e
       obtain⟨s2,k2,e2,h6⟩:=h4;cases e2
       obtain⟨k3,h7⟩:=h6.trans h5
       exact⟨_,k3,rfl,h7⟩
     |list ms j2=>exact h3
     |no j2=>
       rcases h3 with h3|⟨s1,e,k,s',h5,h6,h7⟩
       · cases h3
       · cases e
         obtain⟨s2,k2,e2,h8⟩:=h4;cases e2
         obtain⟨k3,h9⟩:=h8.trans h5;exact Or.inr ⟨_,rfl,k3,s',h9,h6,h7⟩
   · have h2:=(hR.S _ (.mk 30 a 0 [] ns::G) z _ ho);refine(qO.at_ l G.length ⟨i,.mk 30 a 0 [] ns::G,z⟩).fail (by simp) ?_;rw[hst];exact qaG.deep (by simp) h2
theorem qjk{l:List Tk}{R:SM→Int→Option Res}(hR:qg9 l R)(k i:Int)(G:List NT)(z:Option NT)(r:Res)(h:ev l R (prog (.headed k)) i=some r)(hk:(qh l i).kind≠0):OnH l k i G z r:=by
 simp only[prog,ev]at h;rw[if_neg hk,qhy]at h;show OnH l k i G z r
 cases he:exR l (i+1)with
 |node n j=>
   rw[he]at h;have h:qba (R .block j) (fun b j=>some (.node (.mk k (qh l i).at_ 0 [] [n,b]) j))=some r:=h;have hB:=fun r=>hR.B j (.mk k (qh l i).at_ 0 [] [n]::G) z r;rcases qA h with⟨b,j2,ho,hr⟩|⟨j2,ho,rfl⟩
   · cases hr
     have h2:=hB _ ho;have h2:qO l (G.length+1) (qa5 l j (.mk k (qh l i).at_ 0 [] [n]::G) z) ⟨j2,.mk k (qh l i).at_ 0 [] [n,b]::G,z⟩:=h2;refine⟨n,b,rfl,?_⟩;unfold qbT;rw[he];exact h2.deep (by omega)
   · show qaG l G.length (qbT l (i+1) k (qh l i).at_ G z) j2
     unfold qbT;rw[he]
     exact qaG.deep (d:=G.length+1) (by omega) (hB _ ho)
 |list ns j=>rw[he]at h;cases h
 |no j=>
   rw[he]at h;cases h;show qaG l G.length (qbT l (i+1) k (qh l i).at_ G z) j
   unfold qbT;rw[he];exact Or.inl rfl
theorem qmc{l:List Tk}{G:List NT}{z:Option NT}{o:Out}{s1:St}{r:Res}(h:qO l G.length o s1)(hd:G.length<s1.G.length)(h2:On l G z (qD l s1) r):On l G z o r:=by
 cases r with
 |node n j=>exact h.on hd h2
 |list ns j=>exact h2
 |no j=>exact h.fail hd h2
theorem qjj{l:List Tk}{R:SM→Int→Option Res}(hR:qg9 l R)(i:Int)(G:List NT)(z:Option NT)(r:Res)(h:ev l R (prog .choice) i=some r)(hi:isW l i sIf=true):On l G z (qbK l i G z) r:=by
 simp only[prog,ev]at h;unfold qbK;rw[if_pos hi];rcases qA h with⟨g,j,ho,hr⟩|⟨j,ho,rfl⟩
 · obtain⟨x,b,rfl,h2⟩:=hR.H _ _ G z _ ho (qao hi);refine qmc h2 (by simp) ?_;by_cases h1:isW l j qcL=true
   · rw[if_pos (show tW qcL (qh l j)=true from h1),if_neg (qao h1)]at hr;rw[qbl,if_neg (fun h=>absurd h.1 (by show ¬(33:Int)=30;decide)),if_neg (by show ¬(33:Int)=30;decide),if_pos ⟨rfl,rfl,h1⟩];unfold qcb
     have fin:∀(o:Out) (r1:Res),On l (.mk 33 (qh l i).at_ 0 [] [x,b]::G) z o r1→qba (some r1) (fun o j=>some (.node (.mk 33 (qh l i).at_ 0 [] ([x,b]++[o])) j))=some r→On l G z o r:=by
       intro o r1 h3 h4
       cases r1 with
       |node m j2=>
         cases h4
         have h5:qO l (G.length+1) o ⟨j2,.mk 33 (qh l i).at_ 0 [] ([x,b]++[m])::G,z⟩:=h3;refine qO.on (h5.deep (by omega)) (by simp) ?_;rw[qbl,if_neg (fun h=>absurd h.1 (by show ¬(33:Int)=30;decide)),if_neg (by show ¬(33:Int)=30;decide),if_neg (fun h=>absurd h.2.1 (by simp[NT.kids]))]
         exact qO.at_ _ _ _
       |list ms j2=>exact h3.elim
       |no j2=>cases h4;exact qaG.deep (d:=G.length+1) (by omega) h3
     by_cases h3:isW l (j+1) sIf=true
     · rw[if_pos (show tW sIf (qh l (j+1))=true from h3)]at hr;rw[if_pos h3]
       cases hc:R .choice (j+1)with
       |none=>rw[hc]at hr;cases hr
       |some r1=>rw[hc]at hr;exact fin _ r1 (hR.C _ _ _ _ hc h3) hr
     · rw[if_neg (show ¬tW sIf (qh l (j+1))=true from h3)]at hr;rw[if_neg h3]
       cases hc:R .block (j+1)with
       |none=>rw[hc]at hr;cases hr
       |some r1=>rw[hc]at hr;exact fin _ r1 (hR.B _ _ _ _ hc) hr
   · rw[if_neg (show ¬tW qcL (qh l j)=true from h1)]at hr;cases hr
     rw[qbl,if_neg (fun h=>absurd h.1 (by show ¬(33:Int)=30;decide)),if_neg (by show ¬(33:Int)=30;decide),if_neg (fun h=>h1 h.2.2)];exact qO.at_ _ _ _
 · exact hR.H _ _ G z _ ho (qao hi)
theorem qk8{l:List Tk}{R:SM→Int→Option Res}(hR:qg9 l R)(i:Int)(n:NT)(G:List NT)(z:Option NT)(r:Res)(h:ev l R (prog (.place n)) i=some r)(h0:0≤i):On l G z (qmy l (plR l i n) G z) r:=by
 simp only[prog,qbG,ev]at h;by_cases h1:isM l i [46]=true
 · rw[if_pos (show tM [46] (qh l i)=true from h1),if_neg (qS h1)]at h;by_cases h2:(qh l (i+1)).kind=1
   · rw[if_pos (show tN (qh l (i+1))=true by unfold tN;simpa using h2),if_neg (by rw[h2];decide),show i+1+1=i+2 by omega]at h;rw[qkO h1 h2];exact hR.L _ _ _ _ _ h (by omega)
   · rw[if_neg (show ¬tN (qh l (i+1))=true by unfold tN;simpa using h2)]at h;cases h
     rw[qh4 h1 h2];exact Or.inl rfl
 · rw[if_neg (show ¬tM [46] (qh l i)=true from h1)]at h;by_cases h2:isM l i [91]=true
   · rw[if_pos (show tM [91] (qh l i)=true from h2),if_neg (qS h2),qhy]at h
     cases he:exR l (i+1)with
     |node x j=>
       rw[he]at h;have h:(if tM [93] (qh l j)=true then(if (qh l j).kind=0 then some (Res.no j) else R (.place (.mk 13 (qh l i).at_ 0 [] [n,x])) (j+1)) else some (.no j))=some r:=h;by_cases h3:isM l j [93]=true
       · rw[if_pos (show tM [93] (qh l j)=true from h3),if_neg (qS h3)]at h;rw[qkP h2 he h3];exact hR.L _ _ _ _ _ h (by have:=qu h3;omega)
       · rw[if_neg (show ¬tM [93] (qh l j)=true from h3)]at h;cases h
         rw[qi8 h2 he h3]
         exact Or.inl rfl
     |list ns j=>rw[he]at h;cases h
     |no j=>rw[he]at h;cases h;rw[qi7 h2 he];exact Or.inl rfl
   · rw[if_neg (show ¬tM [91] (qh l i)=true from h2)]at h;rw[qml h0 (em.qo h2) (em.qo h1)];show On l G z (if isM l i [61]=true then qbp l (i+1) (fun x=>.mk 32 (qh l i).at_ 0 [] [n,x]) G z else .no i) r
     by_cases h3:isM l i [61]=true
     · rw[if_pos (show tM [61] (qh l i)=true from h3),if_neg (qS h3)]at h;rw[if_pos h3];exact On.close (R:=R) h
     · rw[if_neg (show ¬tM [61] (qh l i)=true from h3)]at h;cases h
       rw[if_neg h3];exact Or.inl rfl
theorem qk7{l:List Tk}{R:SM→Int→Option Res}(hR:qg9 l R)(i:Int)(G:List NT)(z:Option NT)(r:Res)(h:ev l R (prog .named) i=some r):On l G z (qcY l i G z) r:=by
 simp only[prog,ev]at h;unfold qcY;by_cases h1:(qh l i).kind=1
 · rw[if_pos (show tN (qh l i)=true by unfold tN;simpa using h1),if_neg (by rw[h1];decide)]at h;rw[if_pos h1];by_cases h2:isM l (i+1) [40]=true
   · rw[if_pos (show tM [40] (qh l (i+1))=true from h2),qlo]at h;rw[if_pos h2];unfold qaO
     cases he:arR l (i+1)with
     |node n j=>rw[he]at h;cases h
     |list ns j=>rw[he]at h;exact On.end_ (R:=R) h
     |no j=>rw[he]at h;cases h;exact Or.inl rfl
   · rw[if_neg (show ¬tM [40] (qh l (i+1))=true from h2)]at h;rw[if_neg h2];exact hR.L _ _ _ _ _ h (by have:=qC (l:=l) (i:=i) (by rw[h1];decide);omega)
 · rw[if_neg (show ¬tN (qh l i)=true by unfold tN;simpa using h1)]at h;cases h
   rw[if_neg h1];exact Or.inl rfl
theorem qmG{l:List Tk}{R:SM→Int→Option Res}(hR:qg9 l R)(i:Int)(G:List NT)(z:Option NT)(r:Res)(h:ev l R (prog .stmt) i=some r):On l G z (qJ l i G z) r:=by
 simp only[prog,qbG,ev]at h;unfold qJ;by_cases h1:isM l i [123]=true
 · rw[if_pos (show tM [123] (qh l i)=true from h1)]at h;rw[if_pos h1];exact hR.B _ _ _ _ h
 rw[if_neg (show ¬tM [123] (qh l i)=true from h1)]at h;rw[if_neg h1];by_cases hn:(qh l i).kind=1
 · rw[if_pos (show tN (qh l i)=true by unfold tN;simpa using hn)]at h;have hw:∀m,¬isW l i m=true:=fun m e=>by have:=em.qbN e;omega
   rw[if_neg (hw _),if_neg (hw _),if_neg (hw _),if_neg (hw _),if_neg (hw _),if_neg (hw _)];exact hR.N _ _ _ _ h
 rw[if_neg (show ¬tN (qh l i)=true by unfold tN;simpa using hn)]at h;by_cases w1:isW l i sIf=true
 · rw[if_pos (show tW sIf (qh l i)=true from w1)]at h;rw[if_pos w1];exact hR.C _ _ _ _ h w1
 rw[if_neg (show ¬tW sIf (qh l i)=true from w1)]at h;rw[if_neg w1];by_cases w2:isW l i qcF=true
 · rw[if_pos (show tW qcF (qh l i)=true from w2)]at h;rw[if_pos w2];have h2:=hR.H _ _ G z _ h (qao w2)
   cases r with
   |node n j=>
     obtain⟨x,b,rfl,h2⟩:=h2;refine h2.on (by simp) ?_;rw[qbl,if_neg (fun h=>absurd h.1 (by show ¬(34:Int)=30;decide)),if_neg (by show ¬(34:Int)=30;decide),if_neg (fun h=>absurd h.1 (by show ¬(34:Int)=33;decide))]
     exact qO.at_ _ _ _
   |list ns j=>exact h2
   |no j=>exact h2
 rw[if_neg (show ¬tW qcF (qh l i)=true from w2)]at h;rw[if_neg w2];by_cases w3:isW l i qbM=true
 · rw[if_pos (show tW qbM (qh l i)=true from w3),if_neg (qao w3)]at h;rw[if_neg (by rw[em.qby w3 (by decide)];decide),if_pos w3];unfold qfU;by_cases h2:isM l (i+1) [59]=true
   · rw[if_pos (show tM [59] (qh l (i+1))=true from h2),if_neg (qS h2)]at h;cases h
     rw[if_pos h2];unfold qcV;rw[if_pos h2];exact qO.at_ _ _ _
   · rw[if_neg (show ¬tM [59] (qh l (i+1))=true from h2)]at h;rw[if_neg h2];exact On.close (R:=R) h
 rw[if_neg (show ¬tW qbM (qh l i)=true from w3)]at h;by_cases w4:isW l i qcE=true
 · rw[if_pos (show tW qcE (qh l i)=true from w4),if_neg (qao w4)]at h;rw[if_neg (by rw[em.qby w4 (by decide)];decide),if_neg w3,if_neg (by rw[em.qby w4 (by decide)];decide),if_pos w4];exact On.close (R:=R) h
 rw[if_neg (show ¬tW qcE (qh l i)=true from w4)]at h;by_cases w5:isW l i qgQ=true
 · rw[if_pos (show tW qgQ (qh l i)=true from w5),if_neg (qao w5)]at h;rw[if_pos w5];unfold qmZ;by_cases h2:(qh l (i+1)).kind=1
   · rw[if_pos (show tN (qh l (i+1))=true by unfold tN;simpa using h2),if_neg (by rw[h2];decide)]at h;rw[if_pos h2,show i+1+1=i+2 by omega];rw[show i+1+1=i+2 by omega]at h;by_cases h3:isM l (i+2) [61]=true
     · rw[if_pos (show tM [61] (qh l (i+2))=true from h3),if_neg (qS h3)]at h;rw[if_pos h3,show i+1+2=i+2+1 by omega];exact On.close (R:=R) h
     · rw[if_neg (show ¬tM [61] (qh l (i+2))=true from h3)]at h;cases h
       rw[if_neg h3];exact Or.inl rfl
   · rw[if_neg (show ¬tN (qh l (i+1))=true by unfold tN;simpa using h2)]at h;cases h
     rw[if_neg h2];exact Or.inl rfl
 rw[if_neg (show ¬tW qgQ (qh l i)=true from w5)]at h;rw[if_neg w5,if_neg w3];by_cases w6:isW l i qed=true
 · rw[if_pos (show tW qed (qh l i)=true from w6),if_neg (qao w6)]at h;rw[if_pos w6];unfold qhR;by_cases h2:(qh l (i+1)).kind=1
   · rw[if_pos (show tN (qh l (i+1))=true by unfold tN;simpa using h2),if_neg (by rw[h2];decide)]at h;rw[if_pos h2];exact On.end_ (R:=R) h
   · rw[if_neg (show ¬tN (qh l (i+1))=true by unfold tN;simpa using h2)]at h;cases h
     rw[if_neg h2];exact Or.inl rfl
 rw[if_neg (show ¬tW qed (qh l i)=true from w6)]at h;rw[if_neg w6,if_neg w4];cases h
 unfold qcY;rw[if_neg hn];exact Or.inl rfl
theorem qcD(l:List Tk):∀f:Nat,qg9 l (qB l f)
 |0=>by
   have h0:∀m i r,¬qB l 0 m i=some r:=fun m i r h=>by rw[qB]at h;cases h
   exact⟨fun _ _ _ _ h=>absurd h (h0 _ _ _),fun _ _ _ _ h=>absurd h (h0 _ _ _),fun _ _ _ _ _ _ h=>absurd h (h0 _ _ _),fun _ _ _ _ _ h=>absurd h (h0 _ _ _),fun _ _ _ _ h=>absurd h (h0 _ _ _),fun _ _ _ _ h=>absurd h (h0 _ _ _),fun _ _ _ _ _ h=>absurd h (h0 _ _ _)⟩
 |f+1=>by
   have ih:=qcD l f;exact⟨fun _ _ _ _ h=>qmG ih _ _ _ _ (by rw[←qE];exact h),fun _ _ _ _ h=>qk5 ih _ _ _ _ (by rw[←qE];exact h),fun _ _ _ _ _ _ h=>qnM ih _ _ _ _ _ _ (by rw[←qE];exact h),fun _ _ _ _ _ h hk=>qjk ih _ _ _ _ _ (by rw[←qE];exact h) hk,fun _ _ _ _ h hi=>qjj ih _ _ _ _ (by rw[←qE];exact h) hi,fun _ _ _ _ h=>qk7 ih _ _ _ _ (by rw[←qE];exact h),fun _ _ _ _ _ h h0=>qk8 ih _ _ _ _ _ (by rw[←qE];exact h) h0⟩
def cnt:List NT→Nat
 |[]=>0
 |f::G=>cnt G+1+f.kids.length
def Inv(l:List Tk)(s:St):Prop:=s.G=[]∨(0≤s.i∧s.i≤(l.length:Int)∧(cnt s.G:Int)≤s.i)
def qeK(l:List Tk):Out→Prop
 |.go s=>Inv l s
 |.no _=>True
theorem qm5(n:NT)(G:List NT):cnt (qkV n G)=cnt G+(if G=[] then 0 else 1):=by
 cases G with
 |nil=>rfl
 |cons f G=>simp[qkV,cnt,add,NT.kids];omega
theorem qgy{l:List Tk}{i:Int}{n:NT}{G:List NT}{z:Option NT}(h:G=[]∨(0≤i∧i≤(l.length:Int)∧(cnt G:Int)+1≤i)):qeK l (put i n G z):=by
 rcases h with rfl|⟨h0,h1,h2⟩
 · exact Or.inl rfl
 · refine Or.inr ⟨h0,h1,?_⟩;show(cnt (qkV n G):Int)≤i
   rw[qm5];split<;>omega
theorem qeV{l:List Tk}{i:Int}{n:NT}{G:List NT}{z:Option NT}(h:G=[]∨(cnt G:Int)≤i):qeK l (qcV l i n G z):=by
 unfold qcV;by_cases h1:isM l i [59]=true
 · rw[if_pos h1];have:=qu h1;exact qgy (h.imp id fun h=>by omega)
 · rw[if_neg h1];trivial
theorem qdi{l:List Tk}{i:Int}{k:NT→NT}{G:List NT}{z:Option NT}(h:G=[]∨(cnt G:Int)≤i):qeK l (qbp l i k G z):=by
 unfold qbp;have he:=qbD l i
 cases hx:exR l i with
 |node n j=>rw[hx]at he;exact qeV (h.imp id fun h=>by have:=he.2.1;omega)
 |list ns j=>trivial
 |no j=>trivial
theorem qci{l:List Tk}{i:Int}{G:List NT}{z:Option NT}(h:(cnt G:Int)≤max i 0):qeK l (qa5 l i G z):=by
 unfold qa5;by_cases h1:isM l i [123]=true
 · rw[if_pos h1];have:=qu h1;refine Or.inr ⟨by show 0≤i+1;omega,by show i+1≤_;omega,?_⟩;show((cnt G+1+0:Nat):Int)≤i+1
   omega
 · rw[if_neg h1];trivial
theorem qhO{l:List Tk}{i k a:Int}{G:List NT}{z:Option NT}(h:(cnt G:Int)+1≤i):qeK l (qbT l i k a G z):=by
 unfold qbT;have he:=qbD l i
 cases hx:exR l i with
 |node n j=>
   rw[hx]at he;obtain⟨_,e1,e2,e3⟩:=he;have e3:=e3 rfl;refine qci ?_;show((cnt G+1+1:Nat):Int)≤max j 0
   omega
 |list ns j=>trivial
 |no j=>trivial
theorem qfk{l:List Tk}{i:Int}{G:List NT}{z:Option NT}(h:(cnt G:Int)≤max i 0):qeK l (qbK l i G z):=by
 unfold qbK;by_cases h1:isW l i sIf=true
 · rw[if_pos h1];have:=qQ h1;exact qhO (by omega)
 · rw[if_neg h1];trivial
theorem qkt{l:List Tk}{i:Int}{G:List NT}{z:Option NT}(h:(cnt G:Int)≤max i 0):qeK l (qcb l i G z):=by
 unfold qcb;by_cases h1:isW l i sIf=true
 · rw[if_pos h1];exact qfk h
 · rw[if_neg h1];exact qci h
theorem qes{l:List Tk}{i:Int}{G:List NT}{z:Option NT}(h:(cnt G:Int)≤max i 0):qeK l (qJ l i G z):=by
 unfold qJ;have hor:∀j:Int,0≤i→i≤j→(cnt G:Int)≤j:=fun j h0 hj=>by omega
 by_cases h1:isM l i [123]=true
 · rw[if_pos h1];exact qci h
 rw[if_neg h1];by_cases h2:isW l i sIf=true
 · rw[if_pos h2];exact qfk h
 rw[if_neg h2];by_cases h3:isW l i qcF=true
 · rw[if_pos h3];have:=qQ h3;exact qhO (by omega)
 rw[if_neg h3];by_cases h4:isW l i qgQ=true
 · rw[if_pos h4];have:=qQ h4;unfold qmZ;by_cases q1:(qh l (i+1)).kind=1
   · rw[if_pos q1];by_cases q2:isM l (i+1+1) [61]=true
     · rw[if_pos q2];exact qdi (Or.inr (hor _ this.1 (by omega)))
     · rw[if_neg q2];trivial
   · rw[if_neg q1];trivial
 rw[if_neg h4];by_cases h5:isW l i qbM=true
 · rw[if_pos h5];have:=qQ h5;unfold qfU;by_cases q1:isM l (i+1) [59]=true
   · rw[if_pos q1];exact qeV (Or.inr (hor _ this.1 (by omega)))
   · rw[if_neg q1];exact qdi (Or.inr (hor _ this.1 (by omega)))
 rw[if_neg h5];by_cases h6:isW l i qed=true
 · rw[if_pos h6];have:=qQ h6;unfold qhR;by_cases q1:(qh l (i+1)).kind=1
   · rw[if_pos q1];exact qeV (Or.inr (hor _ this.1 (by omega)))
   · rw[if_neg q1];trivial
 rw[if_neg h6];by_cases h7:isW l i qcE=true
 · rw[if_pos h7];have:=qQ h7;exact qdi (Or.inr (hor _ this.1 (by omega)))
 rw[if_neg h7];unfold qcY;by_cases q0:(qh l i).kind=1
 · rw[if_pos q0];have hin:=qC (l:=l) (i:=i) (by rw[q0];decide);by_cases q1:isM l (i+1) [40]=true
   · rw[if_pos q1];unfold qaO;have he:=qhf l (i+1)
     cases hx:arR l (i+1)with
     |node n j=>trivial
     |list ns j=>rw[hx]at he;exact qeV (Or.inr (hor _ hin.1 (by have:=he.2.1;omega)))
     |no j=>trivial
   · rw[if_neg q1];unfold qmy
     cases hx:plR l (i+1) (.mk 12 (qh l i).at_ 0 (qh l i).text [])with
     |node n j=>
       have hj:=qnB (by omega) hx;show qeK l (if isM l j [61]=true then _ else _)
       by_cases q2:isM l j [61]=true
       · rw[if_pos q2];exact qdi (Or.inr (hor _ hin.1 (by omega)))
       · rw[if_neg q2];trivial
     |list ns j=>trivial
     |no j=>trivial
 · rw[if_neg q0];trivial
theorem Inv.step{l:List Tk}{s:St}(h:Inv l s)(hG:s.G≠[]):qeK l (qD l s):=by
 obtain⟨i,G,z⟩:=s
 cases G with
 |nil=>exact absurd rfl hG
 |cons f G=>
   obtain⟨h0,h1,h2⟩:=h.resolve_left hG;have h0:0≤i:=h0;have h1:i≤(l.length:Int):=h1;have h2:((cnt G+1+f.kids.length:Nat):Int)≤i:=h2;rw[qbl];by_cases q1:f.kind=30∧isM l i [125]=false
   · rw[if_pos q1];exact qes (by show((cnt G+1+f.kids.length:Nat):Int)≤max i 0;omega)
   rw[if_neg q1];by_cases q2:f.kind=30
   · rw[if_pos q2]
     have hm:isM l i [125]=true:=by cases hb:isM l i [125]with
       |true=>rfl
       |false=>exact absurd ⟨q2,hb⟩ q1
     have:=qu hm;exact qgy (Or.inr (by omega))
   rw[if_neg q2];by_cases q3:f.kind=33∧f.kids.length=2∧isW l i qcL=true
   · rw[if_pos q3];exact qkt (by show((cnt G+1+f.kids.length:Nat):Int)≤max (i+1) 0;omega)
   · rw[if_neg q3];exact qgy (Or.inr (by omega))
def qfN(l:List Tk):Nat→St→Res→Prop
 |0,s,r=>match r with
   |.node n j=>s=⟨j,[],some n⟩
   |_=>False
 |k+1,s,r=>s.G≠[]∧((∃s1,qD l s=.go s1∧qfN l k s1 r)∨(∃j,qD l s=.no j∧r=.no j))
theorem qfB{l:List Tk}{k k2:Nat}{s s1:St}{r:Res}(h:qV l 0 k s s1)(h2:qfN l k2 s1 r):∃k3,qfN l k3 s r:=by
 induction h with
 |refl _=>exact⟨_,h2⟩
 |step hd hs _ ih=>
   obtain⟨k3,h3⟩:=ih h2;exact⟨k3+1,by intro e;rw[e]at hd;exact absurd hd (by simp),Or.inl ⟨_,hs,h3⟩⟩
def qe1(l:List Tk)(o:Out)(r:Res):Prop:=
 match o with
 |.go s=>∃k,qfN l k s r
 |.no j=>r=.no j
theorem On.whole{l:List Tk}{z:Option NT}{o:Out}{r:Res}(h:On l [] z o r):qe1 l o r:=by
 cases r with
 |node n j=>
   obtain⟨s1,k,rfl,h⟩:=h
   exact qfB h (k2:=0) rfl
 |list ns j=>exact h.elim
 |no j=>
   rcases h with rfl|⟨s1,rfl,k,s',h1,h2,h3⟩
   · rfl
   · exact qfB h1 (k2:=0+1) ⟨by intro e;rw[e]at h2;exact absurd h2 (by simp),Or.inr ⟨j,h3,rfl⟩⟩
theorem qfH{l:List Tk}{f:Nat}{i:Int}{r:Res}(z:Option NT)(h:qB l f .stmt i=some r):qe1 l (qJ l i [] z) r:=((qcD l f).S i [] z r h).whole
theorem qeD{l:List Tk}{f:Nat}{i:Int}{r:Res}(z:Option NT)(h:qB l f .block i=some r):qe1 l (qa5 l i [] z) r:=((qcD l f).B i [] z r h).whole
end Go.Proofs.YtdndfifkfjoffaaGreatDoor.pm.sx
namespace Go.Proofs.YtdndfifkfjoffaaGreatDoor.pm
open Go.RowKit wd lx nt ne mem
open vt (I64)
abbrev TkT:TypeId:=40
def tkA(t:Tk):Value:=.agg #[.int .i64 t.kind,.int .i64 t.at_,.int .i64 t.n,.string ⟨t.text.toArray⟩]
theorem qjn{l:List Tk}{k:Nat}(h:k<l.length):qh l (k:Int)=l[k]:=by
 unfold qh;rw[if_pos (by omega),List.getD_eq_getElem?_getD,Int.toNat_natCast,List.getElem?_eq_getElem h];rfl
theorem qeh{l:List Tk}{i:Int}(h:i<0∨(l.length:Int)≤i):qh l i=⟨0,0,0,[]⟩:=by
 unfold qh;by_cases h0:0≤i
 · rw[if_pos h0,List.getD_eq_getElem?_getD,List.getElem?_eq_none (by omega)];rfl
 · rw[if_neg h0]
theorem qgV{tm:Array Value}{w2:World}{R:Nat}{a b c d:Value}(h4:tm.getD 4 undef=.pointer (some ⟨R,0,none⟩))(hb:Box w2 R TkT #[a,b,c,d]):
   (results Tryz.f32 tm).run Tryz.prog w2=.ok (.agg #[a,b,c,d]) w2:=by
 have x0:=hb.cell 0;have x1:=hb.cell 1;have x2:=hb.cell 2;have x3:=hb.cell 3;simp only[qg]at x0 x1 x2 x3;have h4':tm[4]?.getD undef=.pointer (some ⟨R,0,none⟩):=by simpa using h4
 simp[results,Tryz.results32,go_sem,h4',x0,x1,x2,x3]
theorem qN{w:World}{g:Nat}{t:TypeId}{x y z u:Value}(h:Box w g t #[x,y,z,u])(a b c d:Value):Box ((((w.setCell ⟨g,0,none⟩ a).setCell ⟨g,1,none⟩ b).setCell ⟨g,2,none⟩ c).setCell ⟨g,3,none⟩ d) g t #[a,b,c,d]:=(((h.set 0 a).set 1 b).set 2 c).set 3 d
theorem qG{B g:Nat}{w0 w:World}(h:Below B w0 w)(hg:B≤g)(a b c d:Value):Below B w0 ((((w.setCell ⟨g,0,none⟩ a).setCell ⟨g,1,none⟩ b).setCell ⟨g,2,none⟩ c).setCell ⟨g,3,none⟩ d):=(((h.setCell hg a).setCell hg b).setCell hg c).setCell hg d
def qjt(l:List Tk)(i:Int)(w:World)(e:Ending)(w':World):Prop:=e=.returned (tkA (qh l i))∧Below w.heap.size w w'
theorem qmv(l:List Tk)(v:Value)(i:Int)(w:World)(B:Nat)(h:qb7 B w l v)(hl:l.length≤1048576)(hi:I64 i):
   Calls Tryz.prog 32 #[v,.int .i64 i] w (qjt l i w):=by
 obtain⟨A,c,rfl⟩:=h.form;obtain⟨W,hW⟩:=qc (w.alloc (.cells #[.int .i64 0,.int .i64 0,.int .i64 0,.string ⟨#[]⟩] TkT));have HW:=qb hW;have HB:Hid (Below w.heap.size w W):=qb (by rw[hW];exact qd.alloc qe _);have BX:Box W w.heap.size TkT #[.int .i64 0,.int .i64 0,.int .i64 0,.string ⟨#[]⟩]:=by rw[hW];exact Box.new _ _ _ _ rfl
 have HX:=qb BX;have f0:=BX.frozen 0;have f1:=BX.frozen 1;have f2:=BX.frozen 2;have f3:=BX.frozen 3;have y0:=BX.cell 0;have y1:=BX.cell 1;have y2:=BX.cell 2;have y3:=BX.cell 3;simp only[qg]at y0 y1 y2 y3
 have HS:Hid (qb7 w.heap.size w l (.slice A l.length c)):=qb (by
   obtain⟨h1,A',c',hv,hc⟩:=h;refine⟨h1,A',c',hv,fun h0=>?_⟩;obtain⟨b,off,hA,hb,hcc⟩:=hc h0;have:0<(qav l).length:=by rw[qfI];omega
   refine⟨b,off,hA,?_,hcc⟩;obtain⟨u,hu⟩:∃u,(qav l)[0]?=some u:=⟨_,List.getElem?_eq_getElem this⟩;exact World.block_lt_of_cell? _ _ (hcc 0 u hu))
 unfold I64 at hi;obtain⟨N,hN⟩:=qc l.length;rw[←hN]at hl ⊢;have HN:=qb hN;clear hW BX h hN;by_cases hin:0≤i∧i<(N:Int)
 · obtain⟨k,rfl⟩:∃k:Nat,i=k:=⟨i.toNat,by omega⟩;have hk:k<l.length:=by rw[←HN.out];omega
   obtain⟨b,off,rfl,_,x⟩:=qb7.cells (HS.out.below HB.out) (by omega);obtain⟨x0,x1,x2,x3⟩:=x k hk;have HT:=qb (qjn hk);obtain⟨t,ht⟩:=qc (l[k]);rw[←ht]at x0 x1 x2 x3 HT;have h1:¬(k:Int)<0:=by omega
   have h2:decide ((N:Int)≤(k:Int))=false:=by rw[decide_eq_false_iff_not];omega
   have h3:(k:Int)<(N:Int):=hin.2;have h4:(0:Int)≤(k:Int):=hin.1;clear ht x hin;go_enter Tryz.func32,Tryz.ntmps32
   go_wp2_with (first|(rw[←HW.out]));try simp only[Exit.inBlock,Exit.then]
   refine bodyPost_ret (qgV rfl (qN HX.out _ _ _ _)) rfl ?_;exact⟨by rw[HT.out];rfl,qG HB.out qe _ _ _ _⟩
 · have HT:=qb (qeh (l:=l) (i:=i) (by rw[←HN.out];omega));by_cases h1:i<0
   · clear hin;go_enter Tryz.func32,Tryz.ntmps32
     go_wp2_with (first|(rw[←HW.out]));try simp only[Exit.inBlock,Exit.then]
     refine bodyPost_ret (qgV rfl (qN HX.out _ _ _ _)) rfl ?_;exact⟨by rw[HT.out];rfl,qG HB.out qe _ _ _ _⟩
   · have h2:(N:Int)≤i:=by omega
     clear hin;go_enter Tryz.func32,Tryz.ntmps32
     go_wp2_with (first|(rw[←HW.out]));try simp only[Exit.inBlock,Exit.then]
     refine bodyPost_ret (qgV rfl (qN HX.out _ _ _ _)) rfl ?_;exact⟨by rw[HT.out];rfl,qG HB.out qe _ _ _ _⟩
end Go.Proofs.YtdndfifkfjoffaaGreatDoor.pm

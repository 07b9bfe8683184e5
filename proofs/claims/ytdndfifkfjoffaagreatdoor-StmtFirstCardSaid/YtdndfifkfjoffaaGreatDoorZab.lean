/- Values as plain trees: their sizes, depths, texts, and which are right; nothing of the program. (and what it stands on) -/
import Derived.Test.YtdndfifkfjoffaaGreatDoorZaa
import Derived.WalkKit
import Derived.Lib.ItoaLen
set_option maxRecDepth 100000
set_option maxHeartbeats 4000000
namespace Go.Proofs.YtdndfifkfjoffaaGreatDoor.pm
open Go.RowKit wd lx nt ne
def qh(l:List Tk)(i:Int):Tk:=if 0≤i then l.getD i.toNat ⟨0,0,0,[]⟩ else⟨0,0,0,[]⟩
def isM(l:List Tk)(i:Int)(m:List UInt8):Bool:=decide ((qh l i).kind=4)&&decide ((qh l i).text=m)
def isW(l:List Tk)(i:Int)(m:List UInt8):Bool:=decide ((qh l i).kind=3)&&decide ((qh l i).text=m)
inductive Res where
 |node(n:NT)(j:Int)
 |list(ns:List NT)(j:Int)
 |no(j:Int)
inductive qL where
 |typ
 |lev(t:Nat)
 |loop(t:Nat)(left:NT)
 |fac
 |part
 |steps(n:NT)
 |first
 |call(k:Int)(a:Int)
 |args
 |more(ns:List NT)
def qia:List UInt8:=[105,110,116]
def qeH:List UInt8:=[98,111,111,108]
def qid:List UInt8:=[114,101,118]
def qb4:List UInt8:=[116,114,117,101]
def qbu:List UInt8:=[102,97,108,115,101]
def qec:List UInt8:=[102,111,114,107]
def qgP:List UInt8:=[110,101,119]
def qa6(t:Tk)(lv:Int):Nat→Int
 |0=>0
 |s+1=>if t.kind=4∧qah ((14-s:Nat):Int)=t.text∧qau ((14-s:Nat):Int)=lv then((14-s:Nat):Int) else qa6 t lv s
def qbv(l:List Tk)(i:Int)(lv:Int):Int:=qa6 (qh l i) lv 14
def qba(o:Option Res)(f:NT→Int→Option Res):Option Res:=
 match o with
 |some (.node n j)=>f n j
 |some (.no j)=>some (.no j)
 |_=>none
def qel(o:Option Res)(f:List NT→Int→Option Res):Option Res:=
 match o with
 |some (.list n j)=>f n j
 |some (.no j)=>some (.no j)
 |_=>none
def qx(l:List Tk)(R:qL→Int→Option Res):qL→Int→Option Res
 |.typ,i=>
   if (qh l i).kind=1 then some (.node (.mk 4 (qh l i).at_ 0 (qh l i).text []) (i+1))
   else if isW l i qia=true then some (.node (.mk 1 (qh l i).at_ 0 [] []) (i+1))
   else if isW l i qeH=true then some (.node (.mk 2 (qh l i).at_ 0 [] []) (i+1))
   else if isW l i qid=true then some (.node (.mk 3 (qh l i).at_ 0 [] []) (i+1))
   else if isM l i [91]=false then some (.no i)
   else if isM l (i+1) [93]=false then some (.no (i+1))
   else qba (R .typ (i+2)) fun n j=>some (.node (.mk 5 (qh l i).at_ 0 [] [n]) j)
 |.lev t,i=>if 5<t then R .fac i else qba (R (.lev (t+1)) i) fun n j=>R (.loop t n) j
 |.loop t left,j=>
   if qbv l j t=0 then some (.node left j)
   else qba (R (.lev (t+1)) (j+1)) fun n k=>if t=3 then some (.node (.mk 16 (qh l j).at_ (qbv l j t) [] [left,n]) k) else R (.loop t (.mk 16 (qh l j).at_ (qbv l j t) [] [left,n])) k
 |.fac,i=>
   if isM l i [45]=false∧isM l i [33]=false then R .part i
   else qba (R .fac (i+1)) fun n j=>some (.node (.mk 15 (qh l i).at_ (if isM l i [33]=true then 14 else 2) [] [n]) j)
 |.part,i=>qba (R .first i) fun n j=>R (.steps n) j
 |.steps n,j=>
   if isM l j [46]=true then
     (if (qh l (j+1)).kind=1 then R (.steps (.mk 14 (qh l j).at_ 0 (qh l (j+1)).text [n])) (j+2) else some (.no (j+1)))
   else if isM l j [91]=false then some (.node n j)
   else qba (R (.lev 1) (j+1)) fun x k=>if isM l k [93]=true then R (.steps (.mk 13 (qh l j).at_ 0 [] [n,x])) (k+1) else some (.no k)
 |.first,i=>
   if (qh l i).kind=2 then some (.node (.mk 10 (qh l i).at_ (qh l i).n [] []) (i+1))
   else if isW l i qb4=true then some (.node (.mk 11 (qh l i).at_ 1 [] []) (i+1))
   else if isW l i qbu=true then some (.node (.mk 11 (qh l i).at_ 0 [] []) (i+1))
   else if (qh l i).kind=1 then
     (if isM l (i+1) [40]=true then R (.call 17 (qh l i).at_) i else some (.node (.mk 12 (qh l i).at_ 0 (qh l i).text []) (i+1)))
   else if isW l i qec=true then R (.call 18 (qh l i).at_) (i+1)
   else if isW l i qgP=true then qba (R .typ (i+1)) fun n j=>qel (R .args j) fun ns k=>some (.node (.mk 19 (qh l i).at_ 0 [] (n::ns)) k)
   else if isM l i [40]=false then some (.no i)
   else qba (R (.lev 1) (i+1)) fun n j=>if isM l j [41]=true then some (.node n (j+1)) else some (.no j)
 |.call k a,i=>
   if (qh l i).kind=1 then qel (R .args (i+1)) fun ns j=>some (.node (.mk k a 0 (qh l i).text ns) j)
   else some (.no i)
 |.args,i=>
   if isM l i [40]=false then some (.no i)
   else if isM l (i+1) [41]=true then some (.list [] (i+2))
   else R (.more []) (i+1)
 |.more ns,i=>
   qba (R (.lev 1) i) fun n j=>if isM l j [41]=true then some (.list (ns++[n]) (j+1)) else if isM l j [44]=false then some (.no j) else R (.more (ns++[n])) (j+1)
def run(l:List Tk):Nat→qL→Int→Option Res
 |0,_,_=>none
 |f+1,m,i=>qx l (run l f) m i
theorem qaF(l:List Tk)(f:Nat)(m:qL)(i:Int):run l (f+1) m i=qx l (run l f) m i:=by rw[run]
def Le(o o':Option Res):Prop:=∀r,o=some r→o'=some r
theorem Le.rfl{o:Option Res}:Le o o:=fun _ h=>h
theorem qa8{o o':Option Res}{f f':NT→Int→Option Res}(h:Le o o')(h2:∀n j,Le (f n j) (f' n j)):Le (qba o f) (qba o' f'):=by
 intro r hr
 cases o with
 |none=>simp[qba]at hr
 |some x=>
   rw[h x (Eq.refl _)]
   cases x with
   |node n j=>exact h2 n j r hr
   |list ns j=>simp[qba]at hr
   |no j=>exact hr
theorem qgB{o o':Option Res}{f f':List NT→Int→Option Res}(h:Le o o')(h2:∀n j,Le (f n j) (f' n j)):Le (qel o f) (qel o' f'):=by
 intro r hr
 cases o with
 |none=>simp[qel]at hr
 |some x=>
   rw[h x (Eq.refl _)]
   cases x with
   |node n j=>simp[qel]at hr
   |list ns j=>exact h2 ns j r hr
   |no j=>exact hr
theorem qY{c:Prop}[Decidable c]{a a' b b':Option Res}(h:Le a a')(h2:Le b b'):Le (if c then a else b) (if c then a' else b'):=by
 by_cases hc:c
 · rw[if_pos hc,if_pos hc];exact h
 · rw[if_neg hc,if_neg hc];exact h2
theorem qnv(l:List Tk){R R':qL→Int→Option Res}(h:∀m i,Le (R m i) (R' m i))(m:qL)(i:Int):Le (qx l R m i) (qx l R' m i):=by
 cases m<;>simp only[qx]
 case typ=>exact qY .rfl (qY .rfl (qY .rfl (qY .rfl (qY .rfl (qY .rfl (qa8 (h _ _) fun _ _=>.rfl))))))
 case lev t=>exact qY (h _ _) (qa8 (h _ _) fun _ _=>h _ _)
 case loop t left=>exact qY .rfl (qa8 (h _ _) fun _ _=>qY .rfl (h _ _))
 case fac=>exact qY (h _ _) (qa8 (h _ _) fun _ _=>.rfl)
 case part=>exact qa8 (h _ _) fun _ _=>h _ _
 case steps n=>exact qY (qY (h _ _) .rfl) (qY .rfl (qa8 (h _ _) fun _ _=>qY (h _ _) .rfl))
 case first=>exact qY .rfl (qY .rfl (qY .rfl (qY (qY (h _ _) .rfl) (qY (h _ _) (qY (qa8 (h _ _) fun _ _=>qgB (h _ _) fun _ _=>.rfl) (qY .rfl (qa8 (h _ _) fun _ _=>qY .rfl .rfl)))))))
 case call k a=>exact qY (qgB (h _ _) fun _ _=>.rfl) .rfl
 case args=>exact qY .rfl (qY .rfl (h _ _))
 case more ns=>exact qa8 (h _ _) fun _ _=>qY .rfl (qY .rfl (h _ _))
theorem qh8(l:List Tk):∀(f:Nat) (m:qL) (i:Int),Le (run l f m i) (run l (f+1) m i)
 |0,m,i=>fun r h=>by rw[run]at h;cases h
 |f+1,m,i=>by
   rw[qaF,qaF l (f+1)];exact qnv l (qh8 l f) m i
theorem qc4(l:List Tk){f f':Nat}(hf:f≤f')(m:qL)(i:Int):Le (run l f m i) (run l f' m i):=by
 obtain⟨d,rfl⟩:∃d,f'=f+d:=⟨f'-f,by omega⟩;clear hf
 induction d with
 |zero=>exact .rfl
 |succ d ih=>exact fun r h=>qh8 l (f+d) m i r (ih r h)
theorem qeY(l:List Tk){f f':Nat}{m:qL}{i:Int}{r r':Res}(h:run l f m i=some r)(h':run l f' m i=some r'):r=r':=by
 have h1:=qc4 l (Nat.le_max_left f f') m i r h;have h2:=qc4 l (Nat.le_max_right f f') m i r' h';rw[h1]at h2;exact Option.some.inj h2
theorem qA{o:Option Res}{f:NT→Int→Option Res}{r:Res}(h:qba o f=some r):(∃n j,o=some (.node n j)∧f n j=some r)∨∃j,o=some (.no j)∧r=.no j:=by
 cases o with
 |none=>simp[qba]at h
 |some x=>
   cases x with
   |node n j=>exact Or.inl ⟨n,j,rfl,h⟩
   |list ns j=>simp[qba]at h
   |no j=>exact Or.inr ⟨j,rfl,(Option.some.inj h).symm⟩
theorem qbe{o:Option Res}{f:List NT→Int→Option Res}{r:Res}(h:qel o f=some r):(∃n j,o=some (.list n j)∧f n j=some r)∨∃j,o=some (.no j)∧r=.no j:=by
 cases o with
 |none=>simp[qel]at h
 |some x=>
   cases x with
   |node n j=>simp[qel]at h
   |list ns j=>exact Or.inl ⟨ns,j,rfl,h⟩
   |no j=>exact Or.inr ⟨j,rfl,(Option.some.inj h).symm⟩
theorem qC{l:List Tk}{i:Int}(h:(qh l i).kind≠0):0≤i∧i<(l.length:Int):=by
 unfold qh at h;by_cases h0:0≤i
 · rw[if_pos h0]at h;by_cases h1:i.toNat<l.length
   · omega
   · rw[List.getD_eq_getElem?_getD,List.getElem?_eq_none (by omega)]at h;exact absurd rfl h
 · rw[if_neg h0]at h;exact absurd rfl h
theorem qu{l:List Tk}{i:Int}{m:List UInt8}(h:isM l i m=true):0≤i∧i<(l.length:Int):=by
 unfold isM at h;simp only[Bool.and_eq_true,decide_eq_true_eq]at h;exact qC (by rw[h.1];decide)
theorem qQ{l:List Tk}{i:Int}{m:List UInt8}(h:isW l i m=true):0≤i∧i<(l.length:Int):=by
 unfold isW at h;simp only[Bool.and_eq_true,decide_eq_true_eq]at h;exact qC (by rw[h.1];decide)
theorem qdO{t:Tk}{lv:Int}:∀s:Nat,qa6 t lv s≠0→t.kind=4∧s≤14→1≤qa6 t lv s∧qa6 t lv s≤14∧qau (qa6 t lv s)=lv∧qah (qa6 t lv s)=t.text
 |0,h,_=>absurd rfl h
 |s+1,h,hk=>by
   unfold qa6 at h ⊢;by_cases hc:t.kind=4∧qah ((14-s:Nat):Int)=t.text∧qau ((14-s:Nat):Int)=lv
   · rw[if_pos hc];exact⟨by omega,by omega,hc.2.2,hc.2.1⟩
   · rw[if_neg hc]at h ⊢;exact qdO s h ⟨hk.1,by omega⟩
theorem qdq{t:Tk}{lv:Int}:∀s:Nat,qa6 t lv s≠0→t.kind=4
 |0,h=>absurd rfl h
 |s+1,h=>by
   unfold qa6 at h;by_cases hc:t.kind=4∧qah ((14-s:Nat):Int)=t.text∧qau ((14-s:Nat):Int)=lv
   · exact hc.1
   · rw[if_neg hc]at h;exact qdq s h
theorem qie{l:List Tk}{i lv:Int}(h:qbv l i lv≠0):(0≤i∧i<(l.length:Int))∧1≤qbv l i lv∧qbv l i lv≤14∧qau (qbv l i lv)=lv:=by
 have hk:=qdq 14 h;have h2:=qdO 14 h ⟨hk,by omega⟩;exact⟨qC (by rw[hk];decide),h2.1,h2.2.1,h2.2.2.1⟩
end Go.Proofs.YtdndfifkfjoffaaGreatDoor.pm
namespace Go.Proofs.YtdndfifkfjoffaaGreatDoor.pm
open Go.RowKit wd lx nt ne
def qL.lists:qL→Bool
 |.args=>true
 |.more _=>true
 |_=>false
def qL.strict:qL→Bool
 |.loop _ _=>false
 |.steps _=>false
 |_=>true
def qej(len:Int)(m:qL)(i:Int):Res→Prop
 |.node _ j=>m.lists=false∧i≤j∧(i≤len→j≤len)∧(m.strict=true→0≤i∧i<len∧i<j)
 |.list _ j=>m.lists=true∧i≤j∧(i≤len→j≤len)∧(m.strict=true→0≤i∧i<len∧i<j)
 |.no j=>i≤j∧(i≤len→j≤len)
theorem qfX(l:List Tk)(R:qL→Int→Option Res)(ih:∀m i r,R m i=some r→qej l.length m i r)(m:qL)(i:Int)(r:Res)(h:qx l R m i=some r):qej l.length m i r:=by
 cases m with
 |typ=>
   simp only[qx]at h;by_cases h1:(qh l i).kind=1
   · rw[if_pos h1]at h;cases h;have:=qC (l:=l) (i:=i) (by rw[h1];decide);exact⟨rfl,by omega,by omega,fun _=>by omega⟩
   rw[if_neg h1]at h;by_cases h2:isW l i qia=true
   · rw[if_pos h2]at h;cases h;have:=qQ h2;exact⟨rfl,by omega,by omega,fun _=>by omega⟩
   rw[if_neg h2]at h;by_cases h3:isW l i qeH=true
   · rw[if_pos h3]at h;cases h;have:=qQ h3;exact⟨rfl,by omega,by omega,fun _=>by omega⟩
   rw[if_neg h3]at h;by_cases h4:isW l i qid=true
   · rw[if_pos h4]at h;cases h;have:=qQ h4;exact⟨rfl,by omega,by omega,fun _=>by omega⟩
   rw[if_neg h4]at h;by_cases h5:isM l i [91]=false
   · rw[if_pos h5]at h;cases h;exact⟨Int.le_refl _,fun h=>h⟩
   rw[if_neg h5]at h;have i5:=qu (by simpa using h5:isM l i [91]=true);by_cases h6:isM l (i+1) [93]=false
   · rw[if_pos h6]at h;cases h;exact⟨by omega,by omega⟩
   rw[if_neg h6]at h;have i6:=qu (by simpa using h6:isM l (i+1) [93]=true);rcases qA h with⟨n,j,ho,hr⟩|⟨j,ho,rfl⟩
   · cases hr
     obtain⟨_,e1,e2,e3⟩:=ih _ _ _ ho;exact⟨rfl,by omega,by omega,fun _=>by omega⟩
   · obtain⟨e1,e2⟩:=ih _ _ _ ho
     exact⟨by omega,by omega⟩
 |lev t=>
   simp only[qx]at h;by_cases h1:5<t
   · rw[if_pos h1]at h;have e:=ih _ _ _ h;cases r<;>exact e
   rw[if_neg h1]at h;rcases qA h with⟨n,j,ho,hr⟩|⟨j,ho,rfl⟩
   · obtain⟨_,e1,e2,e3⟩:=ih _ _ _ ho;have e3:=e3 rfl;have e:=ih _ _ _ hr
     cases r with
     |node n k=>exact⟨rfl,by have:=e.2.1;omega,fun _=>e.2.2.1 (by omega),fun _=>by have:=e.2.1;omega⟩
     |list n k=>exact absurd e.1 (by simp[qL.lists])
     |no k=>exact⟨by have:=e.1;omega,fun _=>e.2 (by omega)⟩
   · obtain⟨e1,e2⟩:=ih _ _ _ ho
     exact⟨by omega,by omega⟩
 |loop t left=>
   simp only[qx]at h;by_cases h1:qbv l i t=0
   · rw[if_pos h1]at h;cases h;exact⟨rfl,Int.le_refl _,fun h=>h,fun h=>by cases h⟩
   rw[if_neg h1]at h;have i1:=(qie h1).1;rcases qA h with⟨n,j,ho,hr⟩|⟨j,ho,rfl⟩
   · obtain⟨_,e1,e2,e3⟩:=ih _ _ _ ho;by_cases h3:t=3
     · rw[if_pos h3]at hr;cases hr;exact⟨rfl,by omega,by omega,fun h=>by cases h⟩
     · rw[if_neg h3]at hr;have e:=ih _ _ _ hr
       cases r with
       |node n k=>exact⟨rfl,by have:=e.2.1;omega,fun _=>e.2.2.1 (by omega),fun h=>by cases h⟩
       |list n k=>exact absurd e.1 (by simp[qL.lists])
       |no k=>exact⟨by have:=e.1;omega,fun _=>e.2 (by omega)⟩
   · obtain⟨e1,e2⟩:=ih _ _ _ ho
     exact⟨by omega,by omega⟩
 |fac=>
   simp only[qx]at h;by_cases h1:isM l i [45]=false∧isM l i [33]=false
   · rw[if_pos h1]at h;have e:=ih _ _ _ h;cases r<;>exact e
   rw[if_neg h1]at h
   have i1:0≤i∧i<(l.length:Int):=by
     by_cases h2:isM l i [45]=true
     · exact qu h2
     · exact qu (by
         by_cases h3:isM l i [33]=true
         · exact h3
         · exact absurd ⟨by simpa using h2,by simpa using h3⟩ h1)
   rcases qA h with⟨n,j,ho,hr⟩|⟨j,ho,rfl⟩
   · cases hr
     obtain⟨_,e1,e2,e3⟩:=ih _ _ _ ho;exact⟨rfl,by omega,by omega,fun _=>by omega⟩
   · obtain⟨e1,e2⟩:=ih _ _ _ ho
     exact⟨by omega,by omega⟩
 |part=>
   simp only[qx]at h;rcases qA h with⟨n,j,ho,hr⟩|⟨j,ho,rfl⟩
   · obtain⟨_,e1,e2,e3⟩:=ih _ _ _ ho;have e3:=e3 rfl;have e:=ih _ _ _ hr
     cases r with
     |node n k=>exact⟨rfl,by have:=e.2.1;omega,fun _=>e.2.2.1 (by omega),fun _=>by have:=e.2.1;omega⟩
     |list n k=>exact absurd e.1 (by simp[qL.lists])
     |no k=>exact⟨by have:=e.1;omega,fun _=>e.2 (by omega)⟩
   · obtain⟨e1,e2⟩:=ih _ _ _ ho
     exact⟨by omega,by omega⟩
 |steps n=>
   simp only[qx]at h;by_cases h1:isM l i [46]=true
   · rw[if_pos h1]at h;have i1:=qu h1;by_cases h2:(qh l (i+1)).kind=1
     · rw[if_pos h2]at h;have i2:=qC (l:=l) (i:=i+1) (by rw[h2];decide);have e:=ih _ _ _ h
       cases r with
       |node n k=>exact⟨rfl,by have:=e.2.1;omega,fun _=>e.2.2.1 (by omega),fun h=>by cases h⟩
       |list n k=>exact absurd e.1 (by simp[qL.lists])
       |no k=>exact⟨by have:=e.1;omega,fun _=>e.2 (by omega)⟩
     · rw[if_neg h2]at h;cases h;exact⟨by omega,by omega⟩
   rw[if_neg h1]at h;by_cases h2:isM l i [91]=false
   · rw[if_pos h2]at h;cases h;exact⟨rfl,Int.le_refl _,fun h=>h,fun h=>by cases h⟩
   rw[if_neg h2]at h;have i2:=qu (by simpa using h2:isM l i [91]=true);rcases qA h with⟨x,k,ho,hr⟩|⟨j,ho,rfl⟩
   · obtain⟨_,e1,e2,e3⟩:=ih _ _ _ ho;by_cases h3:isM l k [93]=true
     · rw[if_pos h3]at hr;have i3:=qu h3;have e:=ih _ _ _ hr
       cases r with
       |node n k=>exact⟨rfl,by have:=e.2.1;omega,fun _=>e.2.2.1 (by omega),fun h=>by cases h⟩
       |list n k=>exact absurd e.1 (by simp[qL.lists])
       |no k=>exact⟨by have:=e.1;omega,fun _=>e.2 (by omega)⟩
     · rw[if_neg h3]at hr;cases hr;exact⟨by omega,by omega⟩
   · obtain⟨e1,e2⟩:=ih _ _ _ ho
     exact⟨by omega,by omega⟩
 |first=>
   simp only[qx]at h;by_cases h1:(qh l i).kind=2
   · rw[if_pos h1]at h;cases h;have:=qC (l:=l) (i:=i) (by rw[h1];decide);exact⟨rfl,by omega,by omega,fun _=>by omega⟩
   rw[if_neg h1]at h;by_cases h2:isW l i qb4=true
   · rw[if_pos h2]at h;cases h;have:=qQ h2;exact⟨rfl,by omega,by omega,fun _=>by omega⟩
   rw[if_neg h2]at h;by_cases h3:isW l i qbu=true
   · rw[if_pos h3]at h;cases h;have:=qQ h3;exact⟨rfl,by omega,by omega,fun _=>by omega⟩
   rw[if_neg h3]at h;by_cases h4:(qh l i).kind=1
   · rw[if_pos h4]at h;have i4:=qC (l:=l) (i:=i) (by rw[h4];decide);by_cases h5:isM l (i+1) [40]=true
     · rw[if_pos h5]at h;have e:=ih _ _ _ h;cases r<;>exact e
     · rw[if_neg h5]at h;cases h;exact⟨rfl,by omega,by omega,fun _=>by omega⟩
   rw[if_neg h4]at h;by_cases h5:isW l i qec=true
   · rw[if_pos h5]at h;have i5:=qQ h5;have e:=ih _ _ _ h
     cases r with
     |node n k=>exact⟨rfl,by have:=e.2.1;omega,fun _=>e.2.2.1 (by omega),fun _=>by have:=e.2.1;omega⟩
     |list n k=>exact absurd e.1 (by simp[qL.lists])
     |no k=>exact⟨by have:=e.1;omega,fun _=>e.2 (by omega)⟩
   rw[if_neg h5]at h;by_cases h6:isW l i qgP=true
   · rw[if_pos h6]at h;have i6:=qQ h6;rcases qA h with⟨n,j,ho,hr⟩|⟨j,ho,rfl⟩
     · obtain⟨_,e1,e2,e3⟩:=ih _ _ _ ho;rcases qbe hr with⟨ns,k,ho2,hr2⟩|⟨k,ho2,rfl⟩
       · cases hr2
         obtain⟨_,g1,g2,g3⟩:=ih _ _ _ ho2;exact⟨rfl,by omega,by omega,fun _=>by omega⟩
       · obtain⟨g1,g2⟩:=ih _ _ _ ho2;exact⟨by omega,by omega⟩
     · obtain⟨e1,e2⟩:=ih _ _ _ ho;exact⟨by omega,by omega⟩
   rw[if_neg h6]at h;by_cases h7:isM l i [40]=false
   · rw[if_pos h7]at h;cases h;exact⟨Int.le_refl _,fun h=>h⟩
   rw[if_neg h7]at h;have i7:=qu (by simpa using h7:isM l i [40]=true);rcases qA h with⟨n,j,ho,hr⟩|⟨j,ho,rfl⟩
   · obtain⟨_,e1,e2,e3⟩:=ih _ _ _ ho;by_cases h8:isM l j [41]=true
     · rw[if_pos h8]at hr;cases hr;have i8:=qu h8;exact⟨rfl,by omega,by omega,fun _=>by omega⟩
     · rw[if_neg h8]at hr;cases hr;exact⟨by omega,by omega⟩
   · obtain⟨e1,e2⟩:=ih _ _ _ ho
     exact⟨by omega,by omega⟩
 |call k a=>
   simp only[qx]at h;by_cases h1:(qh l i).kind=1
   · rw[if_pos h1]at h;have i1:=qC (l:=l) (i:=i) (by rw[h1];decide);rcases qbe h with⟨ns,j,ho,hr⟩|⟨j,ho,rfl⟩
     · cases hr
       obtain⟨_,e1,e2,e3⟩:=ih _ _ _ ho;exact⟨rfl,by omega,by omega,fun _=>by omega⟩
     · obtain⟨e1,e2⟩:=ih _ _ _ ho;exact⟨by omega,by omega⟩
   · rw[if_neg h1]at h;cases h
     exact⟨Int.le_refl _,fun h=>h⟩
 |args=>
   simp only[qx]at h;by_cases h1:isM l i [40]=false
   · rw[if_pos h1]at h;cases h;exact⟨Int.le_refl _,fun h=>h⟩
   rw[if_neg h1]at h;have i1:=qu (by simpa using h1:isM l i [40]=true);by_cases h2:isM l (i+1) [41]=true
   · rw[if_pos h2]at h;cases h;have i2:=qu h2;exact⟨rfl,by omega,by omega,fun _=>by omega⟩
   rw[if_neg h2]at h;have e:=ih _ _ _ h
   cases r with
   |node n k=>exact absurd e.1 (by simp[qL.lists])
   |list n k=>exact⟨rfl,by have:=e.2.1;omega,fun _=>e.2.2.1 (by omega),fun _=>by have:=e.2.1;omega⟩
   |no k=>exact⟨by have:=e.1;omega,fun _=>e.2 (by omega)⟩
 |more ns=>
   simp only[qx]at h;rcases qA h with⟨n,j,ho,hr⟩|⟨j,ho,rfl⟩
   · obtain⟨_,e1,e2,e3⟩:=ih _ _ _ ho;have e3:=e3 rfl;by_cases h1:isM l j [41]=true
     · rw[if_pos h1]at hr;cases hr;have i1:=qu h1;exact⟨rfl,by omega,by omega,fun _=>by omega⟩
     rw[if_neg h1]at hr;by_cases h2:isM l j [44]=false
     · rw[if_pos h2]at hr;cases hr;exact⟨by omega,by omega⟩
     rw[if_neg h2]at hr;have i2:=qu (by simpa using h2:isM l j [44]=true);have e:=ih _ _ _ hr
     cases r with
     |node n k=>exact absurd e.1 (by simp[qL.lists])
     |list n k=>exact⟨rfl,by have:=e.2.1;omega,fun _=>e.2.2.1 (by omega),fun _=>by have:=e.2.1;omega⟩
     |no k=>exact⟨by have:=e.1;omega,fun _=>e.2 (by omega)⟩
   · obtain⟨e1,e2⟩:=ih _ _ _ ho;exact⟨by omega,by omega⟩
theorem qT(l:List Tk):∀(f:Nat) (m:qL) (i:Int) (r:Res),run l f m i=some r→qej l.length m i r
 |0,m,i,r,h=>by rw[run]at h;cases h
 |f+1,m,i,r,h=>by
   rw[qaF]at h;exact qfX l (run l f) (qT l f) m i r h
end Go.Proofs.YtdndfifkfjoffaaGreatDoor.pm
namespace Go.Proofs.YtdndfifkfjoffaaGreatDoor.pm
open Go.RowKit wd lx nt ne
def qL.rank:qL→Nat
 |.typ=>1
 |.steps _=>1
 |.loop _ _=>1
 |.args=>1
 |.call _ _=>2
 |.first=>3
 |.part=>4
 |.fac=>5
 |.lev t=>6+(7-t)
 |.more _=>14
def qdz(l:List Tk)(i:Int):Nat:=((l.length:Int)-i).toNat
def qdC(l:List Tk)(m:qL)(i:Int):Nat:=20*qdz l i+m.rank
def Tot(l:List Tk)(m:qL)(i:Int):Prop:=∃r,run l (qdC l m i) m i=some r
theorem qjG(m:qL):m.rank≤14:=by cases m<;>simp[qL.rank];omega
theorem qh6(m:qL):1≤m.rank:=by cases m<;>simp[qL.rank];omega
theorem qbo{o:Option Res}{f:NT→Int→Option Res}{len:Int}{m:qL}{i:Int}(hm:m.lists=false)(he:∀r,o=some r→qej len m i r)(h:∃r,o=some r)(h2:∀n j,o=some (.node n j)→∃r,f n j=some r):∃r,qba o f=some r:=by
 obtain⟨r,hr⟩:=h
 cases r with
 |node n j=>
   obtain⟨r',h'⟩:=h2 n j hr
   exact⟨r',by rw[hr];exact h'⟩
 |list ns j=>exact absurd (he _ hr).1 (by rw[hm];decide)
 |no j=>exact⟨.no j,by rw[hr];rfl⟩
theorem qhe{o:Option Res}{f:List NT→Int→Option Res}{len:Int}{m:qL}{i:Int}(hm:m.lists=true)(he:∀r,o=some r→qej len m i r)(h:∃r,o=some r)(h2:∀n j,o=some (.list n j)→∃r,f n j=some r):∃r,qel o f=some r:=by
 obtain⟨r,hr⟩:=h
 cases r with
 |node n j=>exact absurd (he _ hr).1 (by rw[hm];decide)
 |list ns j=>
   obtain⟨r',h'⟩:=h2 ns j hr
   exact⟨r',by rw[hr];exact h'⟩
 |no j=>exact⟨.no j,by rw[hr];rfl⟩
theorem qmT(l:List Tk)(m:qL)(i:Int)(f:Nat)(hlow:∀m',m'.rank<m.rank→∃r,run l f m' i=some r)(hfar:∀m' i',0≤i→i<(l.length:Int)→i<i'→∃r,run l f m' i'=some r):∃r,run l (f+1) m i=some r:=by
 have he:=fun m i=>qT l f m i;rw[qaF]
 cases m with
 |typ=>
   simp only[qx];by_cases h1:(qh l i).kind=1
   · rw[if_pos h1];exact⟨_,rfl⟩
   rw[if_neg h1];by_cases h2:isW l i qia=true
   · rw[if_pos h2];exact⟨_,rfl⟩
   rw[if_neg h2];by_cases h3:isW l i qeH=true
   · rw[if_pos h3];exact⟨_,rfl⟩
   rw[if_neg h3];by_cases h4:isW l i qid=true
   · rw[if_pos h4];exact⟨_,rfl⟩
   rw[if_neg h4];by_cases h5:isM l i [91]=false
   · rw[if_pos h5];exact⟨_,rfl⟩
   rw[if_neg h5];have i5:=qu (by simpa using h5:isM l i [91]=true);by_cases h6:isM l (i+1) [93]=false
   · rw[if_pos h6];exact⟨_,rfl⟩
   rw[if_neg h6]
   exact qbo (m:=.typ) rfl (he _ _) (hfar _ _ i5.1 i5.2 (by omega)) fun n j _=>⟨_,rfl⟩
 |lev t=>
   simp only[qx];by_cases h1:5<t
   · rw[if_pos h1];exact hlow .fac (by simp only[qL.rank];omega)
   rw[if_neg h1];refine qbo (m:=.lev (t+1)) rfl (he _ _) (hlow (.lev (t+1)) (by simp only[qL.rank];omega)) fun n j hn=>?_;obtain⟨_,e1,e2,e3⟩:=he _ _ _ hn;have e3:=e3 rfl
   exact hfar _ _ e3.1 e3.2.1 e3.2.2
 |loop t left=>
   simp only[qx];by_cases h1:qbv l i t=0
   · rw[if_pos h1];exact⟨_,rfl⟩
   rw[if_neg h1];have i1:=(qie h1).1;refine qbo (m:=.lev (t+1)) rfl (he _ _) (hfar _ _ i1.1 i1.2 (by omega)) fun n k hn=>?_;obtain⟨_,e1,e2,e3⟩:=he _ _ _ hn;by_cases h3:t=3
   · rw[if_pos h3];exact⟨_,rfl⟩
   rw[if_neg h3]
   exact hfar _ _ i1.1 i1.2 (by omega)
 |fac=>
   simp only[qx];by_cases h1:isM l i [45]=false∧isM l i [33]=false
   · rw[if_pos h1];exact hlow .part (by simp[qL.rank])
   rw[if_neg h1]
   have i1:0≤i∧i<(l.length:Int):=by
     by_cases h2:isM l i [45]=true
     · exact qu h2
     · exact qu (by
         by_cases h3:isM l i [33]=true
         · exact h3
         · exact absurd ⟨by simpa using h2,by simpa using h3⟩ h1)
   exact qbo (m:=.fac) rfl (he _ _) (hfar _ _ i1.1 i1.2 (by omega)) fun n j _=>⟨_,rfl⟩
 |part=>
   simp only[qx];refine qbo (m:=.first) rfl (he _ _) (hlow .first (by simp[qL.rank])) fun n j hn=>?_;obtain⟨_,e1,e2,e3⟩:=he _ _ _ hn;have e3:=e3 rfl
   exact hfar _ _ e3.1 e3.2.1 e3.2.2
 |steps n=>
   simp only[qx];by_cases h1:isM l i [46]=true
   · rw[if_pos h1];have i1:=qu h1;by_cases h2:(qh l (i+1)).kind=1
     · rw[if_pos h2];exact hfar _ _ i1.1 i1.2 (by omega)
     · rw[if_neg h2];exact⟨_,rfl⟩
   rw[if_neg h1];by_cases h2:isM l i [91]=false
   · rw[if_pos h2];exact⟨_,rfl⟩
   rw[if_neg h2];have i2:=qu (by simpa using h2:isM l i [91]=true);refine qbo (m:=.lev 1) rfl (he _ _) (hfar _ _ i2.1 i2.2 (by omega)) fun x k hn=>?_;obtain⟨_,e1,e2,e3⟩:=he _ _ _ hn;by_cases h3:isM l k [93]=true
   · rw[if_pos h3];exact hfar _ _ i2.1 i2.2 (by omega)
   · rw[if_neg h3];exact⟨_,rfl⟩
 |first=>
   simp only[qx];by_cases h1:(qh l i).kind=2
   · rw[if_pos h1];exact⟨_,rfl⟩
   rw[if_neg h1];by_cases h2:isW l i qb4=true
   · rw[if_pos h2];exact⟨_,rfl⟩
   rw[if_neg h2];by_cases h3:isW l i qbu=true
   · rw[if_pos h3];exact⟨_,rfl⟩
   rw[if_neg h3];by_cases h4:(qh l i).kind=1
   · rw[if_pos h4];by_cases h5:isM l (i+1) [40]=true
     · rw[if_pos h5];exact hlow _ (by simp[qL.rank])
     · rw[if_neg h5];exact⟨_,rfl⟩
   rw[if_neg h4];by_cases h5:isW l i qec=true
   · rw[if_pos h5];have i5:=qQ h5;exact hfar _ _ i5.1 i5.2 (by omega)
   rw[if_neg h5];by_cases h6:isW l i qgP=true
   · rw[if_pos h6];have i6:=qQ h6;refine qbo (m:=.typ) rfl (he _ _) (hfar _ _ i6.1 i6.2 (by omega)) fun n j hn=>?_;obtain⟨_,e1,e2,e3⟩:=he _ _ _ hn;exact qhe (m:=.args) rfl (he _ _) (hfar _ _ i6.1 i6.2 (by omega)) fun ns k _=>⟨_,rfl⟩
   rw[if_neg h6];by_cases h7:isM l i [40]=false
   · rw[if_pos h7];exact⟨_,rfl⟩
   rw[if_neg h7];have i7:=qu (by simpa using h7:isM l i [40]=true);refine qbo (m:=.lev 1) rfl (he _ _) (hfar _ _ i7.1 i7.2 (by omega)) fun n j hn=>?_;by_cases h8:isM l j [41]=true
   · rw[if_pos h8];exact⟨_,rfl⟩
   · rw[if_neg h8];exact⟨_,rfl⟩
 |call k a=>
   simp only[qx];by_cases h1:(qh l i).kind=1
   · rw[if_pos h1];have i1:=qC (l:=l) (i:=i) (by rw[h1];decide);exact qhe (m:=.args) rfl (he _ _) (hfar _ _ i1.1 i1.2 (by omega)) fun ns j _=>⟨_,rfl⟩
   · rw[if_neg h1];exact⟨_,rfl⟩
 |args=>
   simp only[qx];by_cases h1:isM l i [40]=false
   · rw[if_pos h1];exact⟨_,rfl⟩
   rw[if_neg h1];have i1:=qu (by simpa using h1:isM l i [40]=true);by_cases h2:isM l (i+1) [41]=true
   · rw[if_pos h2];exact⟨_,rfl⟩
   rw[if_neg h2]
   exact hfar _ _ i1.1 i1.2 (by omega)
 |more ns=>
   simp only[qx];refine qbo (m:=.lev 1) rfl (he _ _) (hlow (.lev 1) (by simp[qL.rank])) fun n j hn=>?_;obtain⟨_,e1,e2,e3⟩:=he _ _ _ hn;have e3:=e3 rfl;by_cases h1:isM l j [41]=true
   · rw[if_pos h1];exact⟨_,rfl⟩
   rw[if_neg h1];by_cases h2:isM l j [44]=false
   · rw[if_pos h2];exact⟨_,rfl⟩
   rw[if_neg h2];exact hfar _ _ e3.1 e3.2.1 (by omega)
theorem qk1(l:List Tk):∀(d:Nat) (m:qL) (i:Int),qdz l i≤d→Tot l m i:=by
 intro d
 induction d using Nat.strongRecOn with
 |_ d ihd=>
   have main:∀(k:Nat) (m:qL) (i:Int),m.rank≤k→qdz l i≤d→Tot l m i:=by
     intro k
     induction k with
     |zero=>intro m i hk;have:=qh6 m;omega
     |succ k ihk=>
       intro m i hk hd;by_cases hlt:m.rank≤k
       · exact ihk m i hlt hd
       have hr:=qh6 m;have e:qdC l m i=(20*qdz l i+(m.rank-1))+1:=by unfold qdC;omega
       unfold Tot;rw[e];refine qmT l m i _ (fun m' hm'=>?_) (fun m' i' h0 h1 h2=>?_)
       · obtain⟨r,h⟩:=ihk m' i (by omega) hd;exact⟨r,qc4 l (by unfold qdC;omega) m' i r h⟩
       · have hdi:qdz l i'<qdz l i:=by unfold qdz;omega
         obtain⟨r,h⟩:=ihd (qdz l i') (by omega) m' i' qe;have:=qjG m';exact⟨r,qc4 l (by unfold qdC;omega) m' i' r h⟩
   intro m i h;exact main 14 m i (qjG m) h
theorem qa2(l:List Tk)(m:qL)(i:Int):∃r,run l (qdC l m i) m i=some r:=qk1 l _ m i qe
end Go.Proofs.YtdndfifkfjoffaaGreatDoor.pm
namespace Go.Proofs.YtdndfifkfjoffaaGreatDoor.pm
open Go.RowKit wd lx nt ne
def qm2(l:List Tk):Prop:=∀i,((qh l i).kind=1→named (qh l i).text=true)∧((qh l i).kind=2→0≤(qh l i).n)
end Go.Proofs.YtdndfifkfjoffaaGreatDoor.pm
namespace Go.Proofs.YtdndfifkfjoffaaGreatDoor.pm
open Go.RowKit wd lx nt ne
def Res.pos:Res→Int
 |.node _ j=>j
 |.list _ j=>j
 |.no j=>j
theorem qbS{len:Int}{m:qL}{i:Int}{r:Res}(h:qej len m i r):i≤r.pos:=by
 cases r with
 |node n j=>exact h.2.1
 |list n j=>exact h.2.1
 |no j=>exact h.1
def qbZ(l l':List Tk)(N:Int):Prop:=∀i,i<N→qh l' i=qh l i
theorem qbb{l l':List Tk}{N i:Int}(h:qbZ l l' N)(hi:i<N)(m:List UInt8):isM l' i m=isM l i m:=by unfold isM;rw[h i hi]
theorem qlW{l l':List Tk}{N i:Int}(h:qbZ l l' N)(hi:i<N)(m:List UInt8):isW l' i m=isW l i m:=by unfold isW;rw[h i hi]
theorem qnJ{l l':List Tk}{N i lv:Int}(h:qbZ l l' N)(hi:i<N):qbv l' i lv=qbv l i lv:=by unfold qbv;rw[h i hi]
theorem qbn{o o':Option Res}{f f':NT→Int→Option Res}{r:Res}{N:Int}(hr:r.pos<N)(h:qba o f=some r)(ho:∀x,o=some x→x.pos<N→o'=some x)(hp:∀n j,o=some (.node n j)→f n j=some r→j<N)(hf:∀n j,o=some (.node n j)→j<N→f n j=some r→f' n j=some r):qba o' f'=some r:=by
 rcases qA h with⟨n,j,h1,h2⟩|⟨j,h1,rfl⟩
 · have hj:=hp n j h1 h2;rw[ho _ h1 hj];exact hf n j h1 hj h2
 · rw[ho _ h1 hr];rfl
theorem qgo{o o':Option Res}{f f':List NT→Int→Option Res}{r:Res}{N:Int}(hr:r.pos<N)(h:qel o f=some r)(ho:∀x,o=some x→x.pos<N→o'=some x)(hp:∀n j,o=some (.list n j)→f n j=some r→j<N)(hf:∀n j,o=some (.list n j)→j<N→f n j=some r→f' n j=some r):qel o' f'=some r:=by
 rcases qbe h with⟨n,j,h1,h2⟩|⟨j,h1,rfl⟩
 · have hj:=hp n j h1 h2;rw[ho _ h1 hj];exact hf n j h1 hj h2
 · rw[ho _ h1 hr];rfl
theorem qmm(l l':List Tk)(N:Int)(ag:qbZ l l' N)(R R':qL→Int→Option Res)(he:∀m i r,R m i=some r→qej l.length m i r)(hc:∀k a i r,R (.call k a) i=some r→(qh l i).kind=1→i+1≤r.pos)(ih:∀m i r,R m i=some r→r.pos<N→R' m i=some r)(m:qL)(i:Int)(r:Res)(h:qx l R m i=some r)(hr:r.pos<N):qx l' R' m i=some r:=by
 have hE:=qbS (qfX l R he m i r h);have hi:i<N:=by omega
 have hT:=ag i hi;have eN:=fun m i n j (h:R m i=some (.node n j))=>qbS (he _ _ _ h);have eL:=fun m i n j (h:R m i=some (.list n j))=>qbS (he _ _ _ h);have eA:=fun m i r (h:R m i=some r)=>qbS (he _ _ _ h)
 cases m with
 |typ=>
   simp only[qx]at h ⊢;simp only[qbb ag hi,qlW ag hi,hT];by_cases h1:(qh l i).kind=1
   · rw[if_pos h1]at h ⊢;exact h
   rw[if_neg h1]at h ⊢;by_cases h2:isW l i qia=true
   · rw[if_pos h2]at h ⊢;exact h
   rw[if_neg h2]at h ⊢;by_cases h3:isW l i qeH=true
   · rw[if_pos h3]at h ⊢;exact h
   rw[if_neg h3]at h ⊢;by_cases h4:isW l i qid=true
   · rw[if_pos h4]at h ⊢;exact h
   rw[if_neg h4]at h ⊢;by_cases h5:isM l i [91]=false
   · rw[if_pos h5]at h ⊢;exact h
   rw[if_neg h5]at h ⊢;by_cases h6:isM l (i+1) [93]=false
   · rw[if_pos h6]at h;cases h
     have hi1:i+1<N:=hr;rw[if_pos (by rw[qbb ag hi1];exact h6)]
   rw[if_neg h6]at h
   have hi2:i+2≤r.pos:=by
     rcases qA h with⟨n,j,h1,h2⟩|⟨j,h1,rfl⟩
     · have:=eN _ _ _ _ h1;cases h2;exact this
     · exact eA _ _ _ h1
   rw[if_neg (by rw[qbb ag (by omega:i+1<N)];exact h6)]
   exact qbn hr h (ih _ _) (fun n j _ h2=>by cases h2;exact hr) (fun n j _ _ h2=>h2)
 |lev t=>
   simp only[qx]at h ⊢;by_cases h1:5<t
   · rw[if_pos h1]at h ⊢;exact ih _ _ _ h hr
   rw[if_neg h1]at h ⊢
   exact qbn hr h (ih _ _) (fun n j _ h2=>by have:=eA _ _ _ h2;omega) (fun n j _ _ h2=>ih _ _ _ h2 hr)
 |loop t left=>
   simp only[qx]at h ⊢;simp only[qnJ ag hi,hT];by_cases h1:qbv l i t=0
   · rw[if_pos h1]at h ⊢;exact h
   rw[if_neg h1]at h ⊢;refine qbn hr h (ih _ _) (fun n j _ h2=>?_) (fun n j _ _ h2=>?_)
   · by_cases h3:t=3
     · rw[if_pos h3]at h2;cases h2;exact hr
     · rw[if_neg h3]at h2;have:=eA _ _ _ h2;omega
   · by_cases h3:t=3
     · rw[if_pos h3]at h2 ⊢;exact h2
     · rw[if_neg h3]at h2 ⊢;exact ih _ _ _ h2 hr
 |fac=>
   simp only[qx]at h ⊢;simp only[qbb ag hi,hT];by_cases h1:isM l i [45]=false∧isM l i [33]=false
   · rw[if_pos h1]at h ⊢;exact ih _ _ _ h hr
   rw[if_neg h1]at h ⊢
   exact qbn hr h (ih _ _) (fun n j _ h2=>by cases h2;exact hr) (fun n j _ _ h2=>h2)
 |part=>
   simp only[qx]at h ⊢
   exact qbn hr h (ih _ _) (fun n j _ h2=>by have:=eA _ _ _ h2;omega) (fun n j _ _ h2=>ih _ _ _ h2 hr)
 |steps n=>
   simp only[qx]at h ⊢;simp only[qbb ag hi,hT];by_cases h1:isM l i [46]=true
   · rw[if_pos h1]at h ⊢;by_cases h2:(qh l (i+1)).kind=1
     · rw[if_pos h2]at h;have hi1:i+1<N:=by have:=eA _ _ _ h;omega
       rw[ag _ hi1,if_pos h2];exact ih _ _ _ h hr
     · rw[if_neg h2]at h;cases h
       rw[ag _ (show i+1<N from hr),if_neg h2]
   rw[if_neg h1]at h ⊢;by_cases h2:isM l i [91]=false
   · rw[if_pos h2]at h ⊢;exact h
   rw[if_neg h2]at h ⊢;refine qbn hr h (ih _ _) (fun x k _ h2=>?_) (fun x k _ hk h2=>?_)
   · by_cases h3:isM l k [93]=true
     · rw[if_pos h3]at h2;have:=eA _ _ _ h2;omega
     · rw[if_neg h3]at h2;cases h2;exact hr
   · rw[qbb ag hk];by_cases h3:isM l k [93]=true
     · rw[if_pos h3]at h2 ⊢;exact ih _ _ _ h2 hr
     · rw[if_neg h3]at h2 ⊢;exact h2
 |first=>
   simp only[qx]at h ⊢;simp only[qbb ag hi,qlW ag hi,hT];by_cases h1:(qh l i).kind=2
   · rw[if_pos h1]at h ⊢;exact h
   rw[if_neg h1]at h ⊢;by_cases h2:isW l i qb4=true
   · rw[if_pos h2]at h ⊢;exact h
   rw[if_neg h2]at h ⊢;by_cases h3:isW l i qbu=true
   · rw[if_pos h3]at h ⊢;exact h
   rw[if_neg h3]at h ⊢;by_cases h4:(qh l i).kind=1
   · rw[if_pos h4]at h ⊢;by_cases h5:isM l (i+1) [40]=true
     · rw[if_pos h5]at h;have hi1:i+1<N:=by have:=hc _ _ _ _ h h4;omega
       rw[qbb ag hi1,if_pos h5];exact ih _ _ _ h hr
     · rw[if_neg h5]at h;cases h
       rw[qbb ag (show i+1<N from hr),if_neg h5]
   rw[if_neg h4]at h ⊢;by_cases h5:isW l i qec=true
   · rw[if_pos h5]at h ⊢;exact ih _ _ _ h hr
   rw[if_neg h5]at h ⊢;by_cases h6:isW l i qgP=true
   · rw[if_pos h6]at h ⊢;refine qbn hr h (ih _ _) (fun n j _ h2=>?_) (fun n j _ hj h2=>?_)
     · rcases qbe h2 with⟨ns,k,h3,h4⟩|⟨k,h3,rfl⟩
       · cases h4;have:=eL _ _ _ _ h3;have h9:k<N:=hr;show j<N;exact Int.lt_of_le_of_lt this h9
       · have:=eA _ _ _ h3;have h9:k<N:=hr;exact Int.lt_of_le_of_lt this h9
     · exact qgo hr h2 (ih _ _) (fun ns k _ h3=>by cases h3;exact hr) (fun ns k _ _ h3=>h3)
   rw[if_neg h6]at h ⊢;by_cases h7:isM l i [40]=false
   · rw[if_pos h7]at h ⊢;exact h
   rw[if_neg h7]at h ⊢;refine qbn hr h (ih _ _) (fun n j _ h2=>?_) (fun n j _ hj h2=>?_)
   · by_cases h8:isM l j [41]=true
     · rw[if_pos h8]at h2;cases h2;have h9:j+1<N:=hr;omega
     · rw[if_neg h8]at h2;cases h2;exact hr
   · rw[qbb ag hj];by_cases h8:isM l j [41]=true
     · rw[if_pos h8]at h2 ⊢;exact h2
     · rw[if_neg h8]at h2 ⊢;exact h2
 |call k a=>
   simp only[qx]at h ⊢;simp only[hT];by_cases h1:(qh l i).kind=1
   · rw[if_pos h1]at h ⊢;exact qgo hr h (ih _ _) (fun ns j _ h3=>by cases h3;exact hr) (fun ns j _ _ h3=>h3)
   · rw[if_neg h1]at h ⊢;exact h
 |args=>
   simp only[qx]at h ⊢;simp only[qbb ag hi];by_cases h1:isM l i [40]=false
   · rw[if_pos h1]at h ⊢;exact h
   rw[if_neg h1]at h ⊢;by_cases h2:isM l (i+1) [41]=true
   · rw[if_pos h2]at h;cases h
     have h9:i+2<N:=hr;rw[qbb ag (by omega:i+1<N),if_pos h2]
   rw[if_neg h2]at h;have hi1:i+1<N:=by have:=eA _ _ _ h;omega
   rw[qbb ag hi1,if_neg h2]
   exact ih _ _ _ h hr
 |more ns=>
   simp only[qx]at h ⊢;refine qbn hr h (ih _ _) (fun n j _ h2=>?_) (fun n j _ hj h2=>?_)
   · by_cases h3:isM l j [41]=true
     · rw[if_pos h3]at h2;cases h2;have h9:j+1<N:=hr;omega
     · rw[if_neg h3]at h2;by_cases h4:isM l j [44]=false
       · rw[if_pos h4]at h2;cases h2;exact hr
       · rw[if_neg h4]at h2;have:=eA _ _ _ h2;omega
   · rw[qbb ag hj,qbb ag hj];by_cases h3:isM l j [41]=true
     · rw[if_pos h3]at h2 ⊢;exact h2
     · rw[if_neg h3]at h2 ⊢;by_cases h4:isM l j [44]=false
       · rw[if_pos h4]at h2 ⊢;exact h2
       · rw[if_neg h4]at h2 ⊢;exact ih _ _ _ h2 hr
theorem qlA(l:List Tk):∀(f:Nat) (k a:Int) (i:Int) (r:Res),run l f (.call k a) i=some r→(qh l i).kind=1→i+1≤r.pos
 |0,k,a,i,r,h,_=>by rw[run]at h;cases h
 |f+1,k,a,i,r,h,h1=>by
   rw[qaF]at h;simp only[qx]at h;rw[if_pos h1]at h;rcases qbe h with⟨ns,j,ho,hr⟩|⟨j,ho,rfl⟩
   · have:=qbS (qT l f _ _ _ ho);cases hr
     exact this
   · exact qbS (qT l f _ _ _ ho)
theorem qjL(l l':List Tk)(N:Int)(ag:qbZ l l' N):∀(f:Nat) (m:qL) (i:Int) (r:Res),run l f m i=some r→r.pos<N→run l' f m i=some r
 |0,m,i,r,h,_=>by rw[run]at h;cases h
 |f+1,m,i,r,h,hr=>by
   rw[qaF]at h ⊢;exact qmm l l' N ag (run l f) (run l' f) (qT l f) (qlA l f) (qjL l l' N ag f) m i r h hr
end Go.Proofs.YtdndfifkfjoffaaGreatDoor.pm
namespace Go.Proofs.YtdndfifkfjoffaaGreatDoor.vt
open Go.RowKit
inductive VT where
 |mk(k n:Int)(l:List VT)
def VT.kind:VT→Int|.mk k _ _=>k
def VT.num:VT→Int|.mk _ n _=>n
def VT.kids:VT→List VT|.mk _ _ l=>l
mutual
theorem VT.ind{P:VT→Prop}(h:∀k n l,(∀u∈l,P u)→P (.mk k n l)):∀t,P t
 |.mk k n l=>h k n l (VT.indL h l)
theorem VT.indL{P:VT→Prop}(h:∀k n l,(∀u∈l,P u)→P (.mk k n l)):∀(l:List VT),∀u∈l,P u
 |[]=>fun u hu=>by cases hu
 |v::r=>List.forall_mem_cons.2 ⟨VT.ind h v,VT.indL h r⟩
end
mutual
def VT.size:VT→Nat
 |.mk _ _ l=>qig l+1
def qig:List VT→Nat
 |[]=>0
 |v::r=>v.size+qig r
end
def qnU:List UInt8:=[116,114,117,101]
def qmV:List UInt8:=[102,97,108,115,101]
mutual
def VT.text:VT→List UInt8
 |.mk k n l=>if k=0 then Lib.itoa n else if k=1 then(if n=1 then qnU else qmV) else if k=3 then[123]++qn6 l++[125] else[91]++qn6 l++[93]
def qn6:List VT→List UInt8
 |[]=>[]
 |v::r=>v.text++qn5 r
def qn5:List VT→List UInt8
 |[]=>[]
 |v::r=>[44,32]++v.text++qn5 r
end
end Go.Proofs.YtdndfifkfjoffaaGreatDoor.vt

/- The package's reader of statements: a program. (and what it stands on) -/
import Derived.Test.YtdndfifkfjoffaaGreatDoorZbk
import Derived.Test.YtdndfifkfjoffaaGreatDoorZbh
import Derived.Test.YtdndfifkfjoffaaGreatDoorZbi
import Derived.Test.YtdndfifkfjoffaaGreatDoorZbj
import Derived.Test.YtdndfifkfjoffaaGreatDoorZae
import Derived.Test.YtdndfifkfjoffaaGreatDoorZab
import Derived.Deep.LoopGhost
import Derived.Deep.RegionLaw
import Derived.Test.YtdndfifkfjoffaaGreatDoorZaa
set_option maxRecDepth 100000
set_option maxHeartbeats 4000000
namespace Go.Proofs.YtdndfifkfjoffaaGreatDoor.pm.sx
open Go.RowKit wd lx nt ne pm mem
open vt (I64 qft qt qv qZ qee Typ qc6)
variable{l:List Tk}{v:Value}{w0:World}{rb:Nat}{A A':Nat→Prop}{i j p:Int}{a:Int}{t:List UInt8}{ns ns':List NT}{s s':Value}{G:List NT}{z:Option NT}{w X Y:World}
def qg7(l:List Tk)(p:Int)(rl:Res):Prop:=
 match rl with
 |.list ms q=>p≤q∧q≤(l.length:Int)∧(ms.length:Int)≤q
 |.no q=>p≤q∧q≤(l.length:Int)
 |.node _ _=>False
theorem qg7.from{p q:Int}{rl:Res}(h:qg7 l q rl)(hpq:p≤q):qg7 l p rl:=by
 cases rl with
 |list ms k=>exact⟨Int.le_trans hpq h.1,h.2⟩
 |no k=>exact⟨Int.le_trans hpq h.1,h.2⟩
 |node n k=>exact h
theorem qh3:∀(k:Nat) (p:Int) (ns:List NT) (rl:Res),qbH l k p ns=some rl→0≤p→p≤(l.length:Int)→(ns.length:Int)≤p→qg7 l p rl
 |0,p,ns,rl,h,_,_,_=>by rw[qbH]at h;cases h
 |k+1,p,ns,rl,h,h0,hp,hn=>by
   have step:∀j0:Int,0≤j0→j0≤(l.length:Int)→(ns.length:Int)≤j0→qba (some (paR l j0)) (fun n j=>qbH l k j (ns++[n]))=some rl→qg7 l j0 rl:=by
     intro j0 h1 h2 h3 h4;have he:=qcz l j0 h2 h1
     cases hx:paR l j0 with
     |list ms q=>rw[hx]at he;exact he.elim
     |no q=>rw[hx]at he h4;cases h4;exact he
     |node x q=>
       rw[hx]at he h4;have h5:qbH l k q (ns++[x])=some rl:=h4;exact(qh3 k q (ns++[x]) rl h5 (by have:=he.1;omega) he.2 (by rw[List.length_append];have:=he.1;simp;omega)).from (by have:=he.1;omega)
   rw[qbH]at h;by_cases h1:isM l p [41]=true
   · rw[if_pos h1]at h;have hin:=qu h1;cases h
     exact⟨by omega,by omega,by omega⟩
   · rw[if_neg h1]at h;by_cases h2:ns=[]
     · rw[if_pos h2]at h;exact step p h0 hp hn h
     · rw[if_neg h2]at h;by_cases h3:isM l p [44]=true
       · rw[if_pos h3]at h;have hin:=qu h3;exact(step (p+1) (by omega) (by omega) (by omega) h).from (by omega)
       · rw[if_neg h3]at h;cases h;exact⟨by omega,hp⟩
theorem qne(a:Int)(t:List UInt8)(h:Rd l v w0 rb A i [] z w)(hi:i≤(l.length:Int))(hd:Hd (.mk 53 a 0 t [])){f:Nat}{r:Res}(hr:qB l f (.fun_ 53 a t) i=some r):
   Calls Tryz.prog 78 #[.pointer (some ⟨rb,0,none⟩),.agg #[.int .i64 53,.int .i64 a,.int .i64 0,.string ⟨t.toArray⟩,.slice none 0 0]] w (WhP l v w0 rb A w r):=by
 have hlen:=h.env.src.len;rcases qng hr with⟨hm,rfl⟩|⟨hm,k,rl,hp,ho⟩
 · exact qob a t h hm
 · have hin:=qu hm;have he:=qh3 k (i+1) [] rl hp (by omega) (by omega) (by simp;omega)
   cases rl with
   |node n q=>exact he.elim
   |no q=>
     obtain rfl:r=.no q:=ho
     exact qnf a t h hm k q hi (by unfold I64;have h1:=he.1;have h2:=he.2;omega) hp
   |list ms q=>
     obtain⟨f',hf⟩:∃f',qB l f' (.tail 53 a t ms) q=some r:=ho;obtain⟨e1,e2,e3⟩:=he;have hq:I64 q:=by unfold I64;omega
     have hl:ms.length+1≤1099511627776:=by omega
     rcases qmO hf with⟨hb,f2,rb1,hb1,rfl⟩|⟨hb,⟨j,ht,rfl⟩|⟨o,j,ht,f2,rb1,hb1,rfl⟩⟩
     · exact qkk a t h hd hm k hi hq hl hp hb hb1
     · have ht2:=qdc l q;rw[ht]at ht2;exact qiP a t h hd hm k hi hq hl hp hb ht (by unfold I64;have h1:=ht2.1;have h2:=ht2.2 (by omega);omega)
     · have ht2:=qdc l q;rw[ht]at ht2;exact qkl a t h hd hm k hi hq hl hp hb o ht (by unfold I64;have h1:=ht2.2.1;have h2:=ht2.2.2.1 (by omega);omega) hb1
theorem PaP.wh{r:Res}{e:Ending}{w':World}(h:PaP v rb i w r e w')(hr:Rd l v w0 rb A i [] z w)(hj:∀j,(∃n,r=.node n j)∨r=.no j→I64 j):WhP l v w0 rb A w r e w':=by
 have hk:∀{j:Int},Mv v rb i j w w'→qF A w w':=fun m b q=>m.grow.block b (hr.ap b q).2 fun e=>by injection e with e;exact hr.not (by rw[←e];exact q)
 cases r with
 |list ns j=>exact h.elim
 |no j=>
   obtain⟨n,An,kn,cn,rfl,hm⟩:=h;have h2:=hr.moved hm (hj j (Or.inr rfl))
   exact⟨_,_,_,_,_,_,_,rfl,h2.rs,hk hm,hm.grow.size⟩
 |node n j=>
   obtain⟨s,rfl,hkk,hd,hm⟩:=h;have h2:=hr.moved hm (hj j (Or.inl ⟨n,rfl⟩));refine⟨s,Up A w w',rfl,fun b q=>Or.inl q,h2.none,hk hm,hm.grow.size,?_,hd⟩;exact hkk.carry fun b o u q hc=>⟨⟨Or.inr ⟨q,World.block_lt_of_cell? _ _ hc⟩,fun e=>by have h9:=(hr.ap b e).2;have q9:w.heap.size≤b:=q;omega⟩,hc⟩
theorem WhP.i64{f:Nat}{M:SM}{r:Res}(hr:qB l f M i=some r)(hi:i≤(l.length:Int))(h0:I64 i)(hlen:l.length≤1048576):∀j,(∃n,r=.node n j)∨r=.no j→I64 j:=fun j h=>by
 have e:=qaq l _ _ _ _ hr;unfold I64 at h0 ⊢;rcases h with⟨n,rfl⟩|rfl
 · have h1:=e.2.1;have h2:=e.2.2;omega
 · have h1:=e.1;have h2:=e.2 hi;omega
theorem qnE(a:Int)(t:List UInt8)(h:Rd l v w0 rb A i [] z w)(hi:i≤(l.length:Int))(hd:Hd (.mk 51 a 0 t [])){r:Res}(hr:(isM l i [123]=false∧r=.no i)∨(isM l i [123]=true∧∃f,qB l f (.recs a t []) (i+1)=some r)):
   Calls Tryz.prog 76 #[.pointer (some ⟨rb,0,none⟩),.agg #[.int .i64 51,.int .i64 a,.int .i64 0,.string ⟨t.toArray⟩,.slice none 0 0]] w (WhP l v w0 rb A w r):=by
 have hlen:=h.env.src.len;rcases hr with⟨hm,rfl⟩|⟨hm,f,hf⟩
 · exact(qou a t h.rs hm).mono fun e w' hp=>PaP.wh hp h fun j hj=>by rcases hj with⟨n,e⟩|e;cases e;injection e with e;rw[←e];exact h.num
 · have hin:=qu hm;obtain⟨k,rl,h2,rfl,_⟩:=qh7 f (i+1) [] hf;exact(qnF a t h.rs hm hd rl k h2).mono fun e w' hp=>PaP.wh hp h (WhP.i64 hf (by omega) (by unfold I64;omega) hlen)
end Go.Proofs.YtdndfifkfjoffaaGreatDoor.pm.sx
namespace Go.Proofs.YtdndfifkfjoffaaGreatDoor.pm.sx
open Go.RowKit wd lx nt ne pm mem
open vt (I64 qft qt qv qZ qee Typ qc6)
variable{l:List Tk}{v:Value}{w0:World}{rb:Nat}{A A':Nat→Prop}{i j p:Int}{a:Int}{t:List UInt8}{ns ns':List NT}{s s':Value}{G:List NT}{z:Option NT}{w X Y:World}
theorem qhQ(a m:Int)(t:List UInt8)(h:Rs l v w0 rb i w)(hd:Hd (.mk 52 a m t []))(hj:I64 j)(hjl:j≤(l.length:Int))(hM:∀X:World,Rs l v w0 rb i X→Calls Tryz.prog 106 #[.pointer (some ⟨rb,0,none⟩)] X (fun e w'=>e=.returned (.tuple #[.int .i64 m,.bool true])∧Mv v rb i j X w')):
   Calls Tryz.prog 77 #[.pointer (some ⟨rb,0,none⟩),.agg #[.int .i64 52,.int .i64 a,.int .i64 0,.string ⟨t.toArray⟩,.slice none 0 0]] w (PaP v rb i w (qd2 l a t m j)):=by
 have hlen:=h.env.src.len;have he:=qdc l j;have hj':=hj;unfold I64 at hj';unfold qd2
 cases ht:tyR l j with
 |list ns k=>rw[ht]at he;exact absurd he.1 (by simp[qL.lists])
 |no k=>
   rw[ht]at he
   exact qoL a m t h hd hj hM (by unfold I64;have h1:=he.1;have h2:=he.2 hjl;omega) ht
 |node o k=>
   rw[ht]at he;have k1:=he.2.1;have k2:=he.2.2.1 hjl;have hk:I64 k:=by unfold I64;omega
   show Calls _ _ _ _ (PaP v rb i w (byR l a t m o k))
   unfold byR;by_cases hb:pm.isW l k sBy=true
   · have hin:=qQ hb;have hk1:I64 (k+1):=by unfold I64;omega
     rw[if_pos hb];by_cases hn:(qh l (k+1)).kind=1
     · have hin2:=qC (l:=l) (i:=k+1) (by rw[hn];decide);have hk2:I64 (k+1+1):=by unfold I64;omega
       rw[if_pos hn];by_cases hs:isM l (k+1+1) [59]=true
       · have hin3:=qu hs;rw[if_pos hs];exact qog a m t h hd hj hM hk o ht hb hk1 hn hk2 hs (by unfold I64;omega)
       · rw[if_neg hs];exact qof a m t h hd hj hM hk o ht hb hk1 hn hk2 (em.qo hs)
     · rw[if_neg hn];exact qoK a m t h hd hj hM hk o ht hb hk1 hn
   · rw[if_neg hb];by_cases hs:isM l k [59]=true
     · have hin3:=qu hs;rw[if_pos hs];exact qoi a m t h hd hj hM hk o ht (em.qo hb) (by unfold I64;omega) hs
     · rw[if_neg hs];exact qoh a m t h hd hj hM hk o ht (em.qo hb) (em.qo hs)
theorem qnr(a:Int)(t:List UInt8)(h:Rs l v w0 rb i w)(hi:0≤i∧i≤(l.length:Int))(hd:∀m,I64 m→Hd (.mk 52 a m t [])):
   Calls Tryz.prog 77 #[.pointer (some ⟨rb,0,none⟩),.agg #[.int .i64 52,.int .i64 a,.int .i64 0,.string ⟨t.toArray⟩,.slice none 0 0]] w (PaP v rb i w (qnq l a t i)):=by
 have hlen:=h.env.src.len;have hj1:I64 (i+1):=by unfold I64;omega
 have e2:i+1+1=i+2:=by omega
 have h0:I64 0:=by unfold I64;omega
 have zero:(∀X:World,Rs l v w0 rb i X→Calls Tryz.prog 106 #[.pointer (some ⟨rb,0,none⟩)] X (fun e w'=>e=.returned (.tuple #[.int .i64 0,.bool true])∧Mv v rb i i X w'))→Calls Tryz.prog 77 #[.pointer (some ⟨rb,0,none⟩),.agg #[.int .i64 52,.int .i64 a,.int .i64 0,.string ⟨t.toArray⟩,.slice none 0 0]] w (PaP v rb i w (qd2 l a t 0 i)):=fun hM=>qhQ a 0 t h (hd 0 h0) h.num hi.2 hM;unfold qnq;by_cases hm:isM l i [91]=true
 · by_cases hk:(qh l (i+1)).kind=2
   · by_cases hn:(qh l (i+1)).n=0
     · rw[if_neg (fun q=>q.2.2 hn)];exact zero fun X hX=>qol hX hj1 hm hk hn
     · have hin:=qC (l:=l) (i:=i+1) (by rw[hk];decide);have hj2:I64 (i+2):=by unfold I64;omega
       have hf:=(h.env.src.fair (i+1)).2.1;rw[if_pos ⟨hm,hk,hn⟩,e2];by_cases hs:isM l (i+2) [93]=true
       · have hin3:=qu hs;have hj3:I64 (i+2+1):=by unfold I64;omega
         rw[if_pos hs];exact qhQ a _ t h (hd _ hf) hj3 (by omega) fun X hX=>qon hX hj1 hm hk hn hs hj2 hj3
       · rw[if_neg hs];exact qoJ a _ t h (hd _ hf) hj2 fun X hX=>qom hX hj1 hm hk hn (em.qo hs) hj2
   · rw[if_neg (fun q=>hk q.2.1)];exact zero fun X hX=>qok hX hj1 hm hk
 · rw[if_neg (fun q=>hm q.1)];exact zero fun X hX=>qoj hX hj1 (em.qo hm)
theorem qhL(h:Rd l v w0 rb A i [] z w)(k m:Int)(hk:I64 k)(hm:I64 m):Hd (.mk k (qh l i).at_ m (qh l (i+1)).text []):=⟨hk,(h.env.src.fair i).1,hm,(h.env.src.fair (i+1)).2.2⟩
theorem qcU(h:Rd l v w0 rb A i [] z w){f:Nat}{r:Res}(hr:qB l f .decl i=some r):
   Calls Tryz.prog 30 #[.pointer (some ⟨rb,0,none⟩)] w (WhP l v w0 rb A w r):=by
 have hlen:=h.env.src.len;have h0:I64 0:=by unfold I64;omega
 cases f with
 |zero=>rw[qB]at hr;cases hr
 |succ f=>
   rw[qE]at hr;simp only[prog,qbG,ev]at hr
   have tn:∀{P Q:Option Res},(qh l (i+1)).kind=1→(if tN (qh l (i+1))=true then(if (qh l (i+1)).kind=0 then P else Q) else some (.no (i+1)))=some r→Q=some r:=fun hn e=>by
     rw[if_pos (show tN (qh l (i+1))=true by unfold tN;simpa using hn),if_neg (by rw[hn];decide)]at e;exact e
   have fn:∀{P:Option Res},¬(qh l (i+1)).kind=1→(if tN (qh l (i+1))=true then P else some (.no (i+1)))=some r→r=.no (i+1):=fun hn e=>by
     rw[if_neg (show ¬tN (qh l (i+1))=true by unfold tN;simpa using hn)]at e;cases e;rfl
   have b1:∀{k:Int},qa0 l i=k→0≤i→i<(l.length:Int)→I64 (i+1):=fun _ _ _=>by unfold I64;omega
   by_cases h1:pm.isW l i qic=true
   · have hin:=qQ h1;have hs:qa0 l i=51:=by unfold qa0;rw[if_pos h1]
     rw[if_pos (show tW qic (qh l i)=true from h1),if_neg (qao h1)]at hr;by_cases hn:(qh l (i+1)).kind=1
     · have hin2:=qC (l:=l) (i:=i+1) (by rw[hn];decide);have hr2:=tn hn hr;refine qm6 h hs hn (by unfold I64;omega) (by unfold I64;omega) r fun A1 X hX=>qnE _ _ hX (by omega) (qhL h 51 0 (by unfold I64;omega) h0) ?_;by_cases hm:isM l (i+1+1) [123]=true
       · rw[if_pos (show tM [123] (qh l (i+1+1))=true from hm),if_neg (qS hm)]at hr2;exact Or.inr ⟨hm,f,hr2⟩
       · rw[if_neg (show ¬tM [123] (qh l (i+1+1))=true from hm)]at hr2;exact Or.inl ⟨em.qo hm,by cases hr2;rfl⟩
     · obtain rfl:=fn hn hr;exact qb0 h (by rw[hs];decide) hn (b1 hs (by omega) (by omega))
   · rw[if_neg (show ¬tW qic (qh l i)=true from h1)]at hr;by_cases h2:pm.isW l i qib=true
     · have hin:=qQ h2;have hs:qa0 l i=52:=by unfold qa0;rw[if_neg h1,if_pos h2]
       rw[if_pos (show tW qib (qh l i)=true from h2),if_neg (qao h2)]at hr;by_cases hn:(qh l (i+1)).kind=1
       · have hin2:=qC (l:=l) (i:=i+1) (by rw[hn];decide);have hr2:=tn hn hr;refine qm7 h hs hn (by unfold I64;omega) (by unfold I64;omega) r fun A1 X hX=>?_;have e:=qns hr2;refine(qnr (qh l i).at_ (qh l (i+1)).text hX.rs (by omega) fun m hm=>qhL h 52 m (by unfold I64;omega) hm).mono fun e2 w' hp=>?_;rw[←e]at hp;exact PaP.wh hp hX (WhP.i64 hr2 (by omega) (by unfold I64;omega) hlen)
       · obtain rfl:=fn hn hr;exact qb0 h (by rw[hs];decide) hn (b1 hs (by omega) (by omega))
     · rw[if_neg (show ¬tW qib (qh l i)=true from h2)]at hr;by_cases h3:pm.isW l i qh9=true
       · have hin:=qQ h3;have hs:qa0 l i=53:=by unfold qa0;rw[if_neg h1,if_neg h2,if_pos h3]
         rw[if_pos (show tW qh9 (qh l i)=true from h3),if_neg (qao h3)]at hr;by_cases hn:(qh l (i+1)).kind=1
         · have hin2:=qC (l:=l) (i:=i+1) (by rw[hn];decide);have hr2:=tn hn hr;exact qm8 h hs hn (by unfold I64;omega) (by unfold I64;omega) r fun A1 X hX=>qne _ _ hX (by omega) (qhL h 53 0 (by unfold I64;omega) h0) hr2
         · obtain rfl:=fn hn hr;exact qb0 h (by rw[hs];decide) hn (b1 hs (by omega) (by omega))
       · rw[if_neg (show ¬tW qh9 (qh l i)=true from h3)]at hr;by_cases h4:pm.isW l i qc5=true
         · have hin:=qQ h4;have hs:qa0 l i=54:=by unfold qa0;rw[if_neg h1,if_neg h2,if_neg h3,if_pos h4]
           rw[if_pos (show tW qc5 (qh l i)=true from h4),if_neg (qao h4)]at hr;by_cases hn:(qh l (i+1)).kind=1
           · have hin2:=qC (l:=l) (i:=i+1) (by rw[hn];decide);have hr2:=tn hn hr;exact qm9 h hs hn (by unfold I64;omega) (by unfold I64;omega) r fun A1 X hX=>qkC _ _ hX (qhL h 54 0 (by unfold I64;omega) h0) hr2
           · obtain rfl:=fn hn hr;exact qb0 h (by rw[hs];decide) hn (b1 hs (by omega) (by omega))
         · rw[if_neg (show ¬tW qc5 (qh l i)=true from h4)]at hr;have hs:qa0 l i=0:=by unfold qa0;rw[if_neg h1,if_neg h2,if_neg h3,if_neg h4]
           cases hr
           exact qj4 h hs
end Go.Proofs.YtdndfifkfjoffaaGreatDoor.pm.sx
namespace Go.Proofs.YtdndfifkfjoffaaGreatDoor.pm
open Go.RowKit wd lx nt ne
theorem qnY{l l':List Tk}{N:Int}(ag:qbZ l l' N){m:qL}{i:Int}{r:Res}(h:E l m i=some r)(hr:r.pos<N):E l' m i=some r:=qlh (qjL l l' N ag _ _ _ _ h hr)
theorem qfb{l:List Tk}{R:SM→Int→Option Res}(ih:∀m i r,R m i=some r→qli l.length i r){rk:Nat}{p:Pr}{mv:Bool}{i:Int}{r:Res}(hf:Fit rk mv p)(hm:mv=true→0<i∧i≤l.length)(h:ev l R p i=some r):i≤r.pos:=by
 have e:=qb2 l R ih rk p mv i r hf hm h
 cases r with
 |node n j=>exact e.1
 |list n j=>exact e.elim
 |no j=>exact e.1
theorem qdG(l l':List Tk)(N:Int)(ag:qbZ l l' N)(R R':SM→Int→Option Res)(he:∀m i r,R m i=some r→qli l.length i r)(ih:∀m i r,R m i=some r→r.pos<N→R' m i=some r)(rk:Nat):∀(p:Pr) (mv:Bool) (i:Int) (r:Res),Fit rk mv p→(mv=true→0<i∧i≤l.length)→ev l R p i=some r→r.pos<N→ev l' R' p i=some r
 |.done n,mv,i,r,hf,hm,h,hr=>h
 |.no,mv,i,r,hf,hm,h,hr=>h
 |.look c a b,mv,i,r,hf,hm,h,hr=>by
   have hi:=qfb he hf hm h;simp only[ev]at h ⊢;rw[ag i (by omega)];by_cases hc:c (qh l i)=true
   · rw[if_pos hc]at h ⊢;exact qdG l l' N ag R R' he ih rk a mv i r hf.2.1 hm h hr
   · rw[if_neg hc]at h ⊢;exact qdG l l' N ag R R' he ih rk b mv i r hf.2.2 hm h hr
 |.eat k,mv,i,r,hf,hm,h,hr=>by
   have hi:=qfb he hf hm h;simp only[ev]at h ⊢;rw[ag i (by omega)];by_cases hk:(qh l i).kind=0
   · rw[if_pos hk]at h ⊢;exact h
   · rw[if_neg hk]at h ⊢;have:=qC hk
     exact qdG l l' N ag R R' he ih rk _ true _ r (hf _) (fun _=>by omega) h hr
 |.sub m k,mv,i,r,hf,hm,h,hr=>by
   simp only[ev]at h ⊢;refine qbn hr h (ih _ _) (fun n j ho h2=>?_) (fun n j ho _ h2=>?_)
   · obtain⟨g0,g1,g2⟩:=he _ _ _ ho;have:=qfb he (hf.2 n) (fun _=>by omega) h2;omega
   · obtain⟨g0,g1,g2⟩:=he _ _ _ ho
     exact qdG l l' N ag R R' he ih rk (k n) true j r (hf.2 _) (fun _=>by omega) h2 hr
 |.subE m k,mv,i,r,hf,hm,h,hr=>by
   simp only[ev]at h ⊢;refine qbn hr h (fun x hx hp=>qnY ag hx hp) (fun n j ho h2=>?_) (fun n j ho _ h2=>?_)
   · obtain⟨_,g1,g2,g3⟩:=qT l _ _ _ _ ho;have g3:=g3 hf.1.2;have:=qfb he (hf.2 n) (fun _=>by omega) h2;omega
   · obtain⟨_,g1,g2,g3⟩:=qT l _ _ _ _ ho;have g3:=g3 hf.1.2
     exact qdG l l' N ag R R' he ih rk (k n) true j r (hf.2 _) (fun _=>by omega) h2 hr
 |.subL k,mv,i,r,hf,hm,h,hr=>by
   simp only[ev]at h ⊢;refine qgo hr h (fun x hx hp=>qnY ag hx hp) (fun n j ho h2=>?_) (fun n j ho _ h2=>?_)
   · obtain⟨_,g1,g2,g3⟩:=qT l _ _ _ _ ho;have g3:=g3 rfl;have:=qfb he (hf n) (fun _=>by omega) h2;omega
   · obtain⟨_,g1,g2,g3⟩:=qT l _ _ _ _ ho;have g3:=g3 rfl
     exact qdG l l' N ag R R' he ih rk (k n) true j r (hf _) (fun _=>by omega) h2 hr
 |.go m,mv,i,r,hf,hm,h,hr=>by
   simp only[ev]at h ⊢;exact ih _ _ _ h hr
theorem qfF(l l':List Tk)(N:Int)(ag:qbZ l l' N):∀(f:Nat) (m:SM) (i:Int) (r:Res),qB l f m i=some r→r.pos<N→qB l' f m i=some r
 |0,m,i,r,h,_=>by rw[qB]at h;cases h
 |f+1,m,i,r,h,hr=>by
   rw[qE]at h ⊢;exact qdG l l' N ag (qB l f) (qB l' f) (qaq l f) (qfF l l' N ag f) m.rank (prog m) false i r (fit m) (fun h=>by cases h) h hr
def qcQ(l l':List Tk):Prop:=∀k,(qh l' k).kind=(qh l k).kind∧((qh l k).kind≠0→qh l' k=qh l k)
theorem qcQ.look{l l':List Tk}(h:qcQ l l')(i:Int)(c:Tk→Bool)(hc:∀t,c t=true→t.kind≠0):c (qh l' i)=c (qh l i):=by
 by_cases hk:(qh l i).kind=0
 · have h1:c (qh l i)=false:=by
     cases hx:c (qh l i)with
     |false=>rfl
     |true=>exact absurd hk (hc _ hx)
   have h2:c (qh l' i)=false:=by
     cases hx:c (qh l' i)with
     |false=>rfl
     |true=>exact absurd ((h i).1.trans hk) (hc _ hx)
   rw[h1,h2]
 · rw[(h i).2 hk]
theorem qod{l l':List Tk}(h:qcQ l l')(i:Int)(m:List UInt8):isM l' i m=isM l i m:=h.look i (tM m) (qmt m)
theorem qoe{l l':List Tk}(h:qcQ l l')(i:Int)(m:List UInt8):isW l' i m=isW l i m:=h.look i (tW m) (qmu m)
theorem qey{t:Tk}(h:t.kind=0)(lv:Int):qa6 t lv 14=0:=by
 by_cases e:qa6 t lv 14=0
 · exact e
 · have:=qdq 14 e;rw[h]at this;cases this
theorem qnL{l l':List Tk}(h:qcQ l l')(i lv:Int):qbv l' i lv=qbv l i lv:=by
 unfold qbv;by_cases hk:(qh l i).kind=0
 · rw[qey hk,qey ((h i).1.trans hk)]
 · rw[(h i).2 hk]
theorem qhP{l:List Tk}{i:Int}(h:(qh l i).kind=0)(m:List UInt8):isM l i m=false:=by unfold isM;rw[h];simp
theorem qn2{l:List Tk}{i:Int}(h:(qh l i).kind=0)(m:List UInt8):isW l i m=false:=by unfold isW;rw[h];simp
theorem qow{l:List Tk}{i:Int}(h:(qh l i).kind=0)(lv:Int):qbv l i lv=0:=qey h lv
theorem qnP{l l':List Tk}(h:qcQ l l')(R:qL→Int→Option Res)(m:qL)(i:Int):qx l' R m i=qx l R m i:=by
 have hM:=qod h;have hW:=qoe h;have hS:=qnL h;have hK:=fun k=>(h k).1;by_cases h0:(qh l i).kind=0
 · have h0':(qh l' i).kind=0:=(hK i).trans h0
   cases m with
   |typ=>simp[qx,hM,hW,h0,h0',qhP h0,qn2 h0]
   |lev t=>rfl
   |loop t n=>simp[qx,hS,qow h0]
   |fac=>simp[qx,hM,qhP h0]
   |part=>rfl
   |steps n=>simp[qx,hM,qhP h0]
   |first=>simp[qx,hM,hW,h0,h0',qhP h0,qn2 h0]
   |call k a=>simp[qx,h0,h0']
   |args=>simp[qx,hM,qhP h0]
   |more ns=>simp[qx,hM]
 · have e:=(h i).2 h0
   cases m with
   |steps n=>
     simp only[qx,hM,e];by_cases h1:(qh l (i+1)).kind=0
     · rw[if_neg (show ¬(qh l' (i+1)).kind=1 by rw[hK,h1];decide),if_neg (show ¬(qh l (i+1)).kind=1 by rw[h1];decide)]
     · rw[(h (i+1)).2 h1]
   |typ=>simp only[qx,hM,hW,e]
   |lev t=>rfl
   |loop t n=>simp only[qx,hS,e]
   |fac=>simp only[qx,hM,e]
   |part=>rfl
   |first=>simp only[qx,hM,hW,e]
   |call k a=>simp only[qx,e]
   |args=>simp only[qx,hM]
   |more ns=>simp only[qx,hM]
theorem qmw{l l':List Tk}(h:qcQ l l'):∀(f:Nat) (m:qL) (i:Int),run l' f m i=run l f m i
 |0,m,i=>rfl
 |f+1,m,i=>by
   rw[qaF,qaF,qnP h,show run l' f=run l f from funext fun m=>funext fun i=>qmw h f m i]
theorem qoB{l l':List Tk}(h:qcQ l l')(m:qL)(i:Int):E l' m i=E l m i:=by
 obtain⟨r,hr⟩:=qa2 l' m i;rw[show E l' m i=some r from hr];rw[qmw h]at hr;exact(qlh hr).symm
theorem qfc{l l':List Tk}(h:qcQ l l')(R:SM→Int→Option Res)(rk:Nat):∀(p:Pr) (mv:Bool) (i:Int),Fit rk mv p→ev l' R p i=ev l R p i
 |.done n,mv,i,hf=>rfl
 |.no,mv,i,hf=>rfl
 |.look c a b,mv,i,hf=>by
   simp only[ev]
   rw[h.look i c hf.1,qfc h R rk a mv i hf.2.1,qfc h R rk b mv i hf.2.2]
 |.eat k,mv,i,hf=>by
   simp only[ev];by_cases hk:(qh l i).kind=0
   · rw[if_pos hk,if_pos ((h i).1.trans hk)]
   · rw[(h i).2 hk,if_neg hk,if_neg hk]
     exact qfc h R rk _ true _ (hf _)
 |.sub m k,mv,i,hf=>by
   simp only[ev]
   rw[show(fun n j=>ev l' R (k n) j)=fun n j=>ev l R (k n) j from funext fun n=>funext fun j=>qfc h R rk (k n) true j (hf.2 n)]
 |.subE m k,mv,i,hf=>by
   simp only[ev]
   rw[qoB h,show(fun n j=>ev l' R (k n) j)=fun n j=>ev l R (k n) j from funext fun n=>funext fun j=>qfc h R rk (k n) true j (hf.2 n)]
 |.subL k,mv,i,hf=>by
   simp only[ev]
   rw[qoB h,show(fun n j=>ev l' R (k n) j)=fun n j=>ev l R (k n) j from funext fun n=>funext fun j=>qfc h R rk (k n) true j (hf n)]
 |.go m,mv,i,hf=>rfl
theorem qjK{l l':List Tk}(h:qcQ l l'):∀(f:Nat) (m:SM) (i:Int),qB l' f m i=qB l f m i
 |0,m,i=>rfl
 |f+1,m,i=>by
   rw[qE,qE,qfc h _ m.rank (prog m) false i (fit m),show qB l' f=qB l f from funext fun m=>funext fun i=>qjK h f m i]
def qa7(l:List Tk):Res:=
 match qB l (qdZ l (.decls []) 0) (.decls []) 0 with
 |some (.node n j)=>if j=(l.length:Int)-1∧(qh l j).kind=0 then .node n j else .no j
 |some (.no j)=>.no j
 |_=>.no 0
theorem qbc(l:List Tk):(∃n j f,qB l f (.decls []) 0=some (.node n j)∧0<j∧j≤(l.length:Int)∧qa7 l=if j=(l.length:Int)-1∧(qh l j).kind=0 then .node n j else .no j)∨(∃j f,qB l f (.decls []) 0=some (.no j)∧0≤j∧j≤(l.length:Int)∧qa7 l=.no j):=by
 obtain⟨r,hr⟩:=qfE l (.decls []) 0;have he:=qaq l _ _ _ _ hr
 cases r with
 |node n j=>exact Or.inl ⟨n,j,_,hr,he.2.1,he.2.2,by unfold qa7;rw[hr]⟩
 |list n j=>exact he.elim
 |no j=>exact Or.inr ⟨j,_,hr,he.1,he.2 (by omega),by unfold qa7;rw[hr]⟩
theorem qfA{l l':List Tk}{i:Int}(h:qa7 l=.no i)(hi:i<(l.length:Int)-1)(ag:qbZ l l' (i+1))(hl:i+2≤(l'.length:Int)):qa7 l'=.no i:=by
 rcases qbc l with⟨n,j,f,hr,j0,j1,hp⟩|⟨j,f,hr,j0,j1,hp⟩
 · rw[hp]at h;by_cases hc:j=(l.length:Int)-1∧(qh l j).kind=0
   · rw[if_pos hc]at h;cases h
   · rw[if_neg hc]at h;cases h;have hr':=qfF l l' (i+1) ag _ _ _ _ hr (by show i<i+1;omega);rcases qbc l' with⟨n',j',f',hr2,_,_,hp'⟩|⟨j',f',hr2,_,_,hp'⟩
     · cases qc3 _ hr' hr2
       rw[hp',if_neg (by omega)]
     · cases qc3 _ hr' hr2
 · rw[hp]at h;cases h;have hr':=qfF l l' (i+1) ag _ _ _ _ hr (by show i<i+1;omega);rcases qbc l' with⟨n',j',f',hr2,_,_,hp'⟩|⟨j',f',hr2,_,_,hp'⟩
   · cases qc3 _ hr' hr2
   · cases qc3 _ hr' hr2
     exact hp'
theorem qjd{l l':List Tk}{i:Int}(h:qa7 l=.no i)(_hi:i<(l.length:Int)-1)(ag:qbZ l l' i)(hl:(l'.length:Int)=i+1)(hk:(qh l' i).kind=0):(∃n j,qa7 l'=.node n j)∨qa7 l'=.no i:=by
 have hi0:0≤i:=by
   rcases qbc l with⟨n,j,f,hr,j0,j1,hp⟩|⟨j,f,hr,j0,j1,hp⟩
   · rw[hp]at h;by_cases hc:j=(l.length:Int)-1∧(qh l j).kind=0
     · rw[if_pos hc]at h;cases h
     · rw[if_neg hc]at h;cases h;omega
   · rw[hp]at h;cases h;omega
 have ag':qbZ l' l i:=fun k hk=>(ag k hk).symm
 have hsk:qcQ (l'.take i.toNat) l':=by
   intro k;by_cases h1:0≤k∧k<i
   · have e:qh l' k=qh (l'.take i.toNat) k:=by
       unfold qh;rw[if_pos h1.1,if_pos h1.1,List.getD_eq_getElem?_getD,List.getD_eq_getElem?_getD,List.getElem?_take_of_lt (by omega)]
     rw[e];exact⟨rfl,fun _=>rfl⟩
   · have e:(qh (l'.take i.toNat) k).kind=0:=by
       by_cases e:(qh (l'.take i.toNat) k).kind=0
       · exact e
       · have:=qC e;rw[List.length_take]at this;omega
     have e':(qh l' k).kind=0:=by
       by_cases h2:k=i
       · rw[h2];exact hk
       · by_cases e:(qh l' k).kind=0
         · exact e
         · have:=qC e;omega
     exact⟨by rw[e,e'],fun h=>absurd e h⟩
 have hlen:((l'.take i.toNat).length:Int)=i:=by rw[List.length_take];omega
 have hle:∀f m r,qB l' f m 0=some r→r.pos≤i:=by
   intro f m r hr;rw[qjK hsk]at hr;have e:=qaq _ _ _ _ _ hr;rw[hlen]at e
   cases r with
   |node n j=>exact e.2.2
   |list n j=>exact e.elim
   |no j=>exact e.2 (by omega)
 have hback:∀j,qa7 l'=.no j→j<i→False:=by
   intro j hj hji;have hw:qa7 l=.no j:=qfA hj (by omega) (fun k hk=>(ag' k (by omega))) (by omega);rw[hw]at h;cases h
   omega
 rcases qbc l' with⟨n,j,f,hr,j0,j1,hp⟩|⟨j,f,hr,j0,j1,hp⟩
 · have hj:=hle _ _ _ hr;by_cases hc:j=(l'.length:Int)-1∧(qh l' j).kind=0
   · rw[if_pos hc]at hp;exact Or.inl ⟨n,j,hp⟩
   · rw[if_neg hc]at hp;have hj:j≤i:=hj;by_cases hji:j<i
     · exact(hback j hp hji).elim
     · obtain rfl:j=i:=by omega
       exact Or.inr hp
 · have hj:j≤i:=hle _ _ _ hr;by_cases hji:j<i
   · exact(hback j hp hji).elim
   · obtain rfl:j=i:=by omega
     exact Or.inr hp
end Go.Proofs.YtdndfifkfjoffaaGreatDoor.pm
namespace Go.Proofs.YtdndfifkfjoffaaGreatDoor.pm.sx
open Go.RowKit wd lx nt ne pm mem
open vt (I64 qft qt qv qZ qee Typ qc6)
variable{l:List Tk}{v:Value}{w0:World}{rb Op Oq:Nat}{A H A2:Nat→Prop}{i j p:Int}{ns ns':List NT}{s s':Value}{z:Option NT}{w X Y:World}
def Kp(A:Nat→Prop)(Op Oq b:Nat):Prop:=(A b∨b=Op)∨b=Oq
structure Pg(l:List Tk)(v:Value)(w0:World)(rb:Nat)(A:Nat→Prop)(w:World)(Op Oq:Nat)(H:Nat→Prop)(p:Int)(z:Option NT)(ns:List NT)(s:Value)(X:World):Prop where
 hx:Hx l v w0 rb A w H p z X
 bp:Box X Op qi #[.int .i64 55,.int .i64 0,.int .i64 0,.string ⟨#[]⟩,s]
 bq:Box X Oq qi #[.int .i64 0,.int .i64 0,.int .i64 0,.string ⟨#[]⟩,.slice none 0 0]
 row:qP w0.heap.size (Dn H (Kp A Op Oq) X) X ns s
 hp:H Op
 hq:H Oq
 pa:¬A Op
 qa:¬A Oq
 qp:¬Oq=Op
theorem Pg.pr(h:Pg l v w0 rb A w Op Oq H p z ns s X):¬Op=rb:=fun e=>h.hx.rd.not (by rw[←e];exact h.hp)
theorem Pg.qr(h:Pg l v w0 rb A w Op Oq H p z ns s X):¬Oq=rb:=fun e=>h.hx.rd.not (by rw[←e];exact h.hq)
theorem Pg.kh(h:Pg l v w0 rb A w Op Oq H p z ns s X):∀b,Kp A Op Oq b→H b:=fun b q=>by
 rcases q with(q|q)|q
 · exact h.hx.sub b q
 · rw[q];exact h.hp
 · rw[q];exact h.hq
theorem Pg.rs(h:Pg l v w0 rb A w Op Oq H p z ns s X):Rs l v w0 rb p X:=h.hx.rd.rs
theorem Pg.start{U W:World}(h:Rd l v w0 rb A i [] z w)(hOq:Oq=w.heap.size)(hU:U=w.alloc (.cells #[.int .i64 0,.int .i64 0,.int .i64 0,.string ⟨#[]⟩,.slice none 0 0] qi))(hOp:Op=U.heap.size)(hW:W=U.alloc (.cells #[.int .i64 55,.int .i64 0,.int .i64 0,.string ⟨#[]⟩,.slice none 0 0] qi)):∃H,Pg l v w0 rb A w Op Oq H i z [] (.slice none 0 0) W:=by
 have hb1:Below w.heap.size w U:=by rw[hU];exact qd.alloc qe _
 have hb2:Below U.heap.size U W:=by rw[hW];exact qd.alloc qe _
 have hq:Box U Oq qi #[.int .i64 0,.int .i64 0,.int .i64 0,.string ⟨#[]⟩,.slice none 0 0]:=by rw[hU];exact Box.new _ _ _ _ hOq
 have hp:Box W Op qi #[.int .i64 55,.int .i64 0,.int .i64 0,.string ⟨#[]⟩,.slice none 0 0]:=by rw[hW];exact Box.new _ _ _ _ hOp
 have h0:Hx l v w0 rb A w A i z w:=⟨h,fun _ q=>q,qF.refl _ _,Nat.le_refl _⟩;have hl:=fun b q=>(h.ap b q).2;have hql:=hq.lt;exact⟨_,(h0.on hb1).on hb2,hp,hq.on hb2,qaZ _ _ _,Or.inr ⟨by omega,hp.lt⟩,Or.inl (Or.inr ⟨by omega,hql⟩),fun q=>by have:=hl Op q;have:=hb1.size;omega,fun q=>by have:=hl Oq q;omega,by omega⟩
theorem Pg.on(h:Pg l v w0 rb A w Op Oq H p z ns s X)(hb:Below X.heap.size X Y):Pg l v w0 rb A w Op Oq (Up H X Y) p z ns s Y:=
 ⟨h.hx.on hb,h.bp.on hb,h.bq.on hb,qfu h.row (fun b q=>hb.block b (h.hx.lt b q).2) (fun b q=>Or.inl q),Or.inl h.hp,Or.inl h.hq,h.pa,h.qa,h.qp⟩
theorem Pg.moved(h:Pg l v w0 rb A w Op Oq H p z ns s X)(m:Mv v rb p j X Y)(hj:I64 j):Pg l v w0 rb A w Op Oq (Up H X Y) j z ns s Y:=by
 have hk:∀b,H b→Y.heap[b]?=X.heap[b]?:=fun b q=>m.grow.block b (h.hx.lt b q).2 fun e=>by injection e with e;exact h.hx.rd.not (by rw[←e];exact q)
 exact⟨⟨h.hx.rd.moved m hj,fun b q=>Or.inl (h.hx.sub b q),h.hx.keep.trans fun b q=>hk b (h.hx.sub b q),Nat.le_trans h.hx.sz m.grow.size⟩,m.other h.bp h.pr,m.other h.bq h.qr,qfu h.row hk (fun b q=>Or.inl q),Or.inl h.hp,Or.inl h.hq,h.pa,h.qa,h.qp⟩
theorem Pg.kept(h:Pg l v w0 rb A w Op Oq H p z ns s X)(hk:qF H X Y)(hs:X.heap.size≤Y.heap.size)(hsub:∀b,H b→A2 b)(hr:Rd l v w0 rb A2 j [] none Y):Pg l v w0 rb A w Op Oq A2 j none ns s Y:=
 ⟨⟨hr,fun b q=>hsub b (h.hx.sub b q),h.hx.keep.trans fun b q=>hk b (h.hx.sub b q),Nat.le_trans h.hx.sz hs⟩,(hk Op h.hp).trans h.bp,(hk Oq h.hq).trans h.bq,qfu h.row hk hsub,hsub _ h.hp,hsub _ h.hq,h.pa,h.qa,h.qp⟩
theorem Pg.kid{Z:World}(h:Pg l v w0 rb A w Op Oq H p z ns s X)(hsub:∀b,H b→A2 b)(hr:Rd l v w0 rb A2 j [] none Y)(hb:Below Y.heap.size Y Z){xs:List NT}{sx:Value}(hk:nt.ql (fun b=>A2 b∧¬H b) Y xs sx):nt.ql (fun b=>w0.heap.size≤b∧some b≠s.ownBlock∧¬Dn (Up A2 Y Z) (Kp A Op Oq) Z b) Z xs sx:=
 (hk.below hb).mono fun b q=>⟨(hr.ap b q.1).1,fun e=>q.2 (qi6 h.row b e.symm).1,fun e=>e.2 ⟨Or.inl q.1,fun e2=>q.2 (h.kh b e2)⟩⟩
theorem Pg.app{w9:World}(h:Pg l v w0 rb A w Op Oq H p z ns s X)(ho:qP w0.heap.size (Dn H (Kp A Op Oq) X) w9 ns' s')(hg:X.grownBy w9 s.ownBlock):Pg l v w0 rb A w Op Oq (Up H X w9) p z ns' s' (w9.setCell ⟨Op,4,none⟩ s')∧Box w9 Op qi #[.int .i64 55,.int .i64 0,.int .i64 0,.string ⟨#[]⟩,s]:=by
 obtain⟨h1,h2,h3,h4,h5⟩:=h.hx.app h.bp h.row h.kh (fun b q=>Or.inl (Or.inl q)) (Or.inl (Or.inr rfl)) h.pa ho hg;exact⟨⟨h2,h1,h5 _ _ _ h.bq (Or.inr rfl) h.qp,h3,Or.inl h.hp,Or.inl h.hq,h.pa,h.qa,h.qp⟩,h4⟩
def qoR(l:List Tk):Res→Res
 |.node n j=>if j=(l.length:Int)-1∧(qh l j).kind=0 then .node n j else .no j
 |.list ns j=>.list ns j
 |.no j=>.no j
theorem qmn{r:Res}(hr:qB l (qdZ l (.decls []) 0) (.decls []) 0=some r):qa7 l=qoR l r:=by
 unfold qa7;rw[hr]
 cases r with
 |node n j=>rfl
 |no j=>rfl
 |list ns j=>exact absurd (qaq l _ _ _ _ hr) (fun q=>q)
theorem Pg.own(h:Pg l v w0 rb A w Op Oq H p z ns s X){n:NT}{Y:World}{A3:Nat→Prop}{sn:Value}(hsub:∀b,Kp A Op Oq b→A3 b)(hr:Rd l v w0 rb A3 j [] none Y)(hk:qF (Kp A Op Oq) X Y)(hs:X.heap.size≤Y.heap.size)(hkk:nt.ql (fun b=>A3 b∧¬Kp A Op Oq b) Y n.kids sn)(c1 c2 c3 c4 c5:Value):
   Hx l v w0 rb A w A3 j none (nt.five Y Op c1 c2 c3 c4 c5)∧nt.ql (fun b=>A3 b∧¬Kp A Op Oq b) (nt.five Y Op c1 c2 c3 c4 c5) n.kids sn∧Box (nt.five Y Op c1 c2 c3 c4 c5) Oq qi #[.int .i64 0,.int .i64 0,.int .i64 0,.string ⟨#[]⟩,.slice none 0 0]∧Box Y Op qi #[.int .i64 55,.int .i64 0,.int .i64 0,.string ⟨#[]⟩,s]∧A3 Oq:=by
 have hp:Kp A Op Oq Op:=Or.inl (Or.inr rfl);have hq:Kp A Op Oq Oq:=Or.inr rfl;have h2:Hx l v w0 rb A w A3 j none Y:=⟨hr,fun b q=>hsub b (Or.inl (Or.inl q)),h.hx.keep.trans fun b q=>hk b (Or.inl (Or.inl q)),Nat.le_trans h.hx.sz hs⟩;exact⟨h2.five (hsub _ hp) h.pa _ _ _ _ _,nt.qab hkk (fun b q e=>q.2 (by rw[e];exact hp)) _ _ _ _ _,(qap h.qp _ _ _ _ _).trans ((hk Oq hq).trans h.bq),(hk Op hp).trans h.bp,hsub _ hq⟩
end Go.Proofs.YtdndfifkfjoffaaGreatDoor.pm.sx
namespace Go.Proofs.YtdndfifkfjoffaaGreatDoor.pm.sx
open Go.RowKit wd lx nt ne pm mem
open vt (I64 qft qt qv qZ qee Typ qc6)
variable{l:List Tk}{v:Value}{w0:World}{rb:Nat}{A A':Nat→Prop}{i j:Int}{G:List NT}{z:Option NT}{Op Oq:Nat}{w X Y:World}
def qbJ(l:List Tk)(v:Value)(w0:World)(rb:Nat)(A:Nat→Prop)(w:World)(Op Oq:Nat)(rr:Res)(g:Nat)(wr:World):Prop:=
 ∃H p z ns As cs,Hid (qB l g (.decls ns) p=some rr)∧Hid (0≤p∧p≤(l.length:Int)∧(ns.length:Int)≤p)∧Hid (Pg l v w0 rb A w Op Oq H p z ns (.slice As ns.length cs) wr)
theorem qcw{l:List Tk}{f:Nat}{ns:List NT}{p:Int}{r:Res}(h:qB l (f+1) (.decls ns) p=some r):
   (pm.isW l p qbX=true∧∃rb,qB l f .block (p+1)=some rb∧r=qcS (.mk 55 0 0 [] ns) rb)∨(pm.isW l p qbX=false∧((∃q,qB l f .decl p=some (.no q)∧r=.no q)∨∃d q,qB l f .decl p=some (.node d q)∧qB l f (.decls (ns++[d])) q=some r)):=by
 rw[qE]at h;simp only[prog,ev]at h;by_cases h1:pm.isW l p qbX=true
 · rw[if_pos (show tW qbX (qh l p)=true from h1),if_neg (qao h1)]at h;obtain⟨rb,h2,h3⟩:=qeS (n:=.mk 55 0 0 [] ns) (ns:=ns) (l:=l) (f:=f) (r:=r) rfl rfl h;exact Or.inl ⟨h1,rb,h2,h3⟩
 · rw[if_neg (show ¬tW qbX (qh l p)=true from h1)]at h;refine Or.inr ⟨em.qo h1,?_⟩;rcases qA h with⟨n,q,ho,hr⟩|⟨q,ho,rfl⟩
   · exact Or.inr ⟨n,q,ho,hr⟩
   · exact Or.inl ⟨q,ho,rfl⟩
theorem qg3(x:Int)(h1:-9223372036854775808≤x)(h2:x≤9223372036854775807):IntKind.i64.wrap x=x:=by rw[IntKind.wrap_i64];omega
theorem qmP(a1 a2 a3:Int)(a4:ByteArray)(w:World):(Instr.field 40 (.agg #[.int .i64 a1,.int .i64 a2,.int .i64 a3,.string a4]) 0).run Tryz.prog w=.ok (.int .i64 a1) w:=by kernel_rfl
theorem qeq{X Z:World}{P0 P1 P2 P3 P4 R0 R1:Value}(e1:Z.heap[Op]?=X.heap[Op]?)(e2:Z.heap[rb]?=X.heap[rb]?)(h:X.cell? ⟨Op,0,none⟩=some P0∧X.cell? ⟨Op,1,none⟩=some P1∧X.cell? ⟨Op,2,none⟩=some P2∧X.cell? ⟨Op,3,none⟩=some P3∧X.cell? ⟨Op,4,none⟩=some P4∧X.cell? ⟨rb,0,none⟩=some R0∧X.cell? ⟨rb,1,none⟩=some R1):
   Z.cell? ⟨Op,0,none⟩=some P0∧Z.cell? ⟨Op,1,none⟩=some P1∧Z.cell? ⟨Op,2,none⟩=some P2∧Z.cell? ⟨Op,3,none⟩=some P3∧Z.cell? ⟨Op,4,none⟩=some P4∧Z.cell? ⟨rb,0,none⟩=some R0∧Z.cell? ⟨rb,1,none⟩=some R1:=by
 obtain⟨q0,q1,q2,q3,q4,q5,q6⟩:=h;exact⟨(World.cell?_of_block (a:=⟨Op,0,none⟩) e1).trans q0,(World.cell?_of_block (a:=⟨Op,1,none⟩) e1).trans q1,(World.cell?_of_block (a:=⟨Op,2,none⟩) e1).trans q2,(World.cell?_of_block (a:=⟨Op,3,none⟩) e1).trans q3,(World.cell?_of_block (a:=⟨Op,4,none⟩) e1).trans q4,(World.cell?_of_block (a:=⟨rb,0,none⟩) e2).trans q5,(World.cell?_of_block (a:=⟨rb,1,none⟩) e2).trans q6⟩
theorem qnk:Hd (.mk 55 0 0 [] []):=⟨by show I64 55;unfold I64;omega,by show I64 0;unfold I64;omega,by show I64 0;unfold I64;omega,by show([]:List UInt8).length≤_;simp⟩
end Go.Proofs.YtdndfifkfjoffaaGreatDoor.pm.sx

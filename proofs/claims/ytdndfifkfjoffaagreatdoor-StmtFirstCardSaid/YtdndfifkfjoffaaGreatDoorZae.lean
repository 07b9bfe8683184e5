/- Statements, declarations and programs read from tokens: readers as plain texts over a list, counted down. (and what it stands on) -/
import Derived.Test.YtdndfifkfjoffaaGreatDoorZad
import Derived.Test.YtdndfifkfjoffaaGreatDoorZaa
import Derived.BigQuiet
import Derived.Test.YtdndfifkfjoffaaGreatDoorZab
set_option maxRecDepth 100000
set_option maxHeartbeats 4000000
namespace Go.Proofs.YtdndfifkfjoffaaGreatDoor.lx
open Go.RowKit mem vt wd
def qdS(B:Nat)(w:World)(l:List Tok)(v:Value):Prop:=qb6 B 4 w v l.length (qaQ l)
theorem qdS.below{B:Nat}{w w':World}{l:List Tok}{v:Value}(h:qdS B w l v)(hb:Below B w w'):qdS B w' l v:=qb6.below h hb
theorem qdS.more{B B':Nat}{w:World}{l:List Tok}{v:Value}(h:qdS B w l v)(hB:B≤B'):qdS B' w l v:=qb6.more h hB
theorem qdS.of_got{B:Nat}{w w':World}{l:List Tok}{v:Value}(h:Got B qcu 4 l.length (qaQ l) v w w'):qdS w'.heap.size w' l v:=h.sees
theorem qdS.form{B:Nat}{w:World}{l:List Tok}{v:Value}(h:qdS B w l v):∃A c,v=.slice A l.length c:=by
 obtain⟨_,A,c,hv,_⟩:=h;exact⟨A,c,hv⟩
theorem qdS.cells{B:Nat}{w:World}{l:List Tok}{A:Option Addr}{n c:Nat}(h:qdS B w l (.slice A n c))(h0:0<l.length):∃b off,A=some ⟨b,off,none⟩∧b<B∧∀k (hk:k<l.length),
   w.cell? ⟨b,off+k*4,none⟩=some (.int .i64 l[k].kind)∧w.cell? ⟨b,off+k*4+1,none⟩=some (.int .i64 l[k].at_)∧w.cell? ⟨b,off+k*4+2,none⟩=some (.int .i64 l[k].n)∧w.cell? ⟨b,off+k*4+3,none⟩=some (.string ⟨l[k].text.toArray⟩):=by
 obtain⟨_,A',c',hv,hc⟩:=h;injection hv with hA hn hcc
 subst hA;obtain⟨b,off,hA,hb,hcc⟩:=hc h0;refine⟨b,off,hA,hb,fun k hk=>⟨?_,?_,?_,?_⟩⟩
 · exact hcc (k*4) _ ((qdb l k 0 hk (by omega)).trans rfl)
 · have:=hcc (k*4+1) _ ((qdb l k 1 hk (by omega)).trans rfl);rw[←Nat.add_assoc]at this;exact this
 · have:=hcc (k*4+2) _ ((qdb l k 2 hk (by omega)).trans rfl);rw[←Nat.add_assoc]at this;exact this
 · have:=hcc (k*4+3) _ ((qdb l k 3 hk (by omega)).trans rfl);rw[←Nat.add_assoc]at this;exact this
end Go.Proofs.YtdndfifkfjoffaaGreatDoor.lx
namespace Go.Proofs.YtdndfifkfjoffaaGreatDoor.pm
open Go.RowKit wd lx nt ne mem
def qK(t:Tok):Tk:=⟨t.kind,t.at_,t.n,t.text⟩
theorem qmS(ts:List Tok):qaQ ts=qav (ts.map qK):=by
 induction ts with
 |nil=>rfl
 |cons t ts ih=>rw[List.map_cons,qdv,←ih];rfl
theorem qoy{B:Nat}{w:World}{ts:List Tok}{v:Value}(h:qdS B w ts v):qb7 B w (ts.map qK) v:=by
 unfold qb7;rw[←qmS,List.length_map];exact h
theorem qfK:∀{ts:List Tok},qeL ts→∀t∈ts,t.kind=0∨qR t.text=(0,t.kind,t.n,t.text)
 |[],h,_,_=>h.elim
 |[t],h,u,hu=>by
   have:u=t:=by simpa using hu
   rw[this];exact Or.inl h.1
 |t::v::ts,h,u,hu=>by
   rcases List.mem_cons.1 hu with rfl|hu
   · exact Or.inr h.1
   · exact qfK h.2.2 u hu
theorem ql9{n:Int}{s:List UInt8}(h:qR s=(0,1,n,s))(hl:s.length≤16384):named s=true:=by
 have e:qfP s=(0,0,[⟨1,0,n,s⟩,⟨0,0+s.length,0,[]⟩]):=by
   rw[qb3 hl,qgD h,List.drop_eq_nil_of_le qe,qbq];rfl
 unfold named;rw[e];simp
theorem qge(l:List UInt8):0≤(whole.qbs l).1:=by
 unfold whole.qbs;by_cases hd:whole.qhv l=true
 · rw[if_pos hd]
   have hall:l.all whole.isD=true:=by
     unfold whole.qhv at hd;simp only[Bool.and_eq_true]at hd;exact hd.2
   have:=(whole.qjJ l hall).1;split
   · exact Int.le_refl _
   · exact this
 · rw[if_neg hd];exact Int.le_refl _
theorem qop{n:Int}{s t:List UInt8}(h:qR s=(0,2,n,t)):0≤n:=by
 cases s with
 |nil=>simp[qR]at h
 |cons c r=>
   by_cases h1:cls c=1
   · rw[qdL h1]at h;injection h with _ h
     injection h with h _
     split at h<;>cases h
   · by_cases h2:cls c=2
     · rw[qgb h2]at h;injection h with _ h
       injection h with _ h
       injection h with h _
       rw[←h];exact qge _
     · rw[qh1 h1 h2]at h;split at h
       · injection h with h _;cases h
       · injection h with _ h
         injection h with h _;cases h
theorem qnj{ts:List Tok}(h:qeL ts)(hl:∀t∈ts,t.text.length≤16384):qm2 (ts.map qK):=by
 intro i;by_cases h0:0≤i∧i.toNat<ts.length
 · have e:qh (ts.map qK) i=qK ts[i.toNat]:=by
     unfold qh;rw[if_pos h0.1,List.getD_eq_getElem?_getD,List.getElem?_map,List.getElem?_eq_getElem h0.2];rfl
   rw[e];obtain⟨t,ht⟩:=qc (ts[i.toNat]);have hm:t∈ts:=by rw[ht];exact List.getElem_mem h0.2
   rw[←ht];refine⟨fun hk=>?_,fun hk=>?_⟩
   · have hk:t.kind=1:=hk;rcases qfK h t hm with h1|h1
     · rw[h1]at hk;cases hk
     · rw[hk]at h1;exact ql9 h1 (hl t hm)
   · have hk:t.kind=2:=hk;rcases qfK h t hm with h1|h1
     · rw[h1]at hk;cases hk
     · rw[hk]at h1;exact qop h1
 · have e:qh (ts.map qK) i=⟨0,0,0,[]⟩:=by
     unfold qh;by_cases h1:0≤i
     · rw[if_pos h1,List.getD_eq_getElem?_getD,List.getElem?_eq_none (by rw[List.length_map];omega)];rfl
     · rw[if_neg h1]
   rw[e];exact⟨fun h=>absurd h (by decide),fun h=>absurd h (by decide)⟩
theorem qhW{s:List UInt8}:∀{ts:List Tok} {e:Nat},qjP s e ts→∀t∈ts,t.text.length≤s.length
 |[],_,_,t,ht=>by cases ht
 |u::ts,e,h,t,ht=>by
   rcases List.mem_cons.1 ht with rfl|ht
   · have:=h.2.1;omega
   · exact qhW h.2.2.2.2 t ht
end Go.Proofs.YtdndfifkfjoffaaGreatDoor.pm
namespace Go.Proofs.YtdndfifkfjoffaaGreatDoor.pm
open Go.RowKit wd lx nt ne
theorem qS{l:List Tk}{i:Int}{m:List UInt8}(h:isM l i m=true):(qh l i).kind≠0:=by
 unfold isM at h;simp only[Bool.and_eq_true,decide_eq_true_eq]at h;rw[h.1];decide
theorem qao{l:List Tk}{i:Int}{m:List UInt8}(h:isW l i m=true):(qh l i).kind≠0:=by
 unfold isW at h;simp only[Bool.and_eq_true,decide_eq_true_eq]at h;rw[h.1];decide
theorem qdw:∀{ts:List Tok},qeL ts→0<ts.length∧(qh (ts.map qK) ((ts.length:Int)-1)).kind=0
 |[],h=>absurd h (by unfold qeL;exact fun h=>h)
 |[t],h=>⟨by simp,by unfold qeL at h;simp[qh,qK,h.1]⟩
 |t::u::ts,h=>by
   unfold qeL at h;obtain⟨h1,h2⟩:=qdw h.2.2;refine⟨by simp,?_⟩
   have e:qh ((t::u::ts).map qK) (((t::u::ts).length:Int)-1)=qh ((u::ts).map qK) (((u::ts).length:Int)-1):=by
     unfold qh;have e1:(((t::u::ts).length:Int)-1).toNat=(((u::ts).length:Int)-1).toNat+1:=by simp
     rw[e1,if_pos (by simp;omega),if_pos (by simp)];simp
   rw[e];exact h2
end Go.Proofs.YtdndfifkfjoffaaGreatDoor.pm
namespace Go.Proofs.YtdndfifkfjoffaaGreatDoor.pm
open Go.RowKit wd lx nt ne
inductive SM where
 |stmt
 |block
 |blk(a:Int)(ns:List NT)
 |headed(k:Int)
 |choice
 |named
 |place(n:NT)
 |param
 |decl
 |recs(a:Int)(s:List UInt8)(ns:List NT)
 |iso(a:Int)(s:List UInt8)
 |kind(a:Int)(s:List UInt8)(n:Int)
 |by_(a:Int)(s:List UInt8)(n:Int)(t:NT)
 |fun_(k:Int)(a:Int)(s:List UInt8)
 |funs(k:Int)(a:Int)(s:List UInt8)(ns:List NT)
 |tail(k:Int)(a:Int)(s:List UInt8)(ns:List NT)
 |decls(ns:List NT)
inductive Pr where
 |done(n:NT)
 |no
 |look(c:Tk→Bool)(a b:Pr)
 |eat(k:Tk→Pr)
 |sub(m:SM)(k:NT→Pr)
 |subE(m:qL)(k:NT→Pr)
 |subL(k:List NT→Pr)
 |go(m:SM)
def E(l:List Tk)(m:qL)(i:Int):Option Res:=run l (qdC l m i) m i
theorem qlh{l:List Tk}{f:Nat}{m:qL}{i:Int}{r:Res}(h:run l f m i=some r):E l m i=some r:=by
 obtain⟨r',h'⟩:=qa2 l m i;have:=qeY l h h';subst this;exact h'
def ev(l:List Tk)(R:SM→Int→Option Res):Pr→Int→Option Res
 |.done n,i=>some (.node n i)
 |.no,i=>some (.no i)
 |.look c a b,i=>if c (qh l i)=true then ev l R a i else ev l R b i
 |.eat k,i=>if (qh l i).kind=0 then some (.no i) else ev l R (k (qh l i)) (i+1)
 |.sub m k,i=>qba (R m i) fun n j=>ev l R (k n) j
 |.subE m k,i=>qba (E l m i) fun n j=>ev l R (k n) j
 |.subL k,i=>qel (E l .args i) fun n j=>ev l R (k n) j
 |.go m,i=>R m i
def tM(m:List UInt8)(t:Tk):Bool:=decide (t.kind=4)&&decide (t.text=m)
def tW(m:List UInt8)(t:Tk):Bool:=decide (t.kind=3)&&decide (t.text=m)
def tN(t:Tk):Bool:=decide (t.kind=1)
def sIf:List UInt8:=[105,102]
def qcL:List UInt8:=[101,108,115,101]
def qcF:List UInt8:=[119,104,105,108,101]
def qbM:List UInt8:=[114,101,116,117,114,110]
def qcE:List UInt8:=[112,114,105,110,116]
def qgQ:List UInt8:=[118,97,114]
def qed:List UInt8:=[106,111,105,110]
def qic:List UInt8:=[114,101,99]
def qib:List UInt8:=[105,115,111]
def qh9:List UInt8:=[102,117,110]
def qc5:List UInt8:=[109,101,114,103,101]
def sBy:List UInt8:=[98,121]
def qbX:List UInt8:=[109,97,105,110]
def qbG(m:List UInt8)(p:Pr):Pr:=.look (tM m) (.eat fun _=>p) .no
def qiG(k:NT→NT):Pr:=.subE (.lev 1) fun n=>qbG [59] (.done (k n))
def prog:SM→Pr
 |.block=>.look (tM [123]) (.eat fun t=>.go (.blk t.at_ [])) .no
 |.blk a ns=>.look (tM [125]) (.eat fun _=>.done (.mk 30 a 0 [] ns)) (.sub .stmt fun n=>.go (.blk a (ns++[n])))
 |.stmt=>
   .look (tM [123]) (.go .block) <|.look tN (.go .named) <|.look (tW sIf) (.go .choice) <|.look (tW qcF) (.go (.headed 34)) <|
   .look (tW qbM) (.eat fun t=>.look (tM [59]) (.eat fun _=>.done (.mk 35 t.at_ 0 [] [])) (qiG fun n=>.mk 35 t.at_ 0 [] [n])) <|
   .look (tW qcE) (.eat fun t=>qiG fun n=>.mk 37 t.at_ 0 [] [n]) <|
   .look (tW qgQ) (.eat fun t=>.look tN (.eat fun s=>qbG [61] (qiG fun n=>.mk 31 t.at_ 0 s.text [n])) .no) <|
   .look (tW qed) (.eat fun t=>.look tN (.eat fun s=>qbG [59] (.done (.mk 36 t.at_ 0 s.text []))) .no) .no
 |.headed k=>.eat fun t=>.subE (.lev 1) fun n=>.sub .block fun b=>.done (.mk k t.at_ 0 [] [n,b])
 |.choice=>.sub (.headed 33) fun g=>.look (tW qcL) (.eat fun _=>.look (tW sIf) (.sub .choice fun o=>.done (.mk g.kind g.at_ g.num g.name (g.kids++[o]))) (.sub .block fun o=>.done (.mk g.kind g.at_ g.num g.name (g.kids++[o])))) (.done g)
 |.named=>.look tN (.eat fun t=>.look (tM [40]) (.subL fun ns=>qbG [59] (.done (.mk 38 t.at_ 0 [] [.mk 17 t.at_ 0 t.text ns]))) (.go (.place (.mk 12 t.at_ 0 t.text [])))) .no
 |.place n=>
   .look (tM [46]) (.eat fun t=>.look tN (.eat fun s=>.go (.place (.mk 14 t.at_ 0 s.text [n]))) .no) <|
   .look (tM [91]) (.eat fun t=>.subE (.lev 1) fun x=>qbG [93] (.go (.place (.mk 13 t.at_ 0 [] [n,x])))) <|
   .look (tM [61]) (.eat fun t=>qiG fun x=>.mk 32 t.at_ 0 [] [n,x]) .no
 |.param=>.look tN (.eat fun t=>.subE .typ fun n=>.done (.mk 50 t.at_ 0 t.text [n])) .no
 |.decl=>
   .look (tW qic) (.eat fun t=>.look tN (.eat fun s=>qbG [123] (.go (.recs t.at_ s.text []))) .no) <|
   .look (tW qib) (.eat fun t=>.look tN (.eat fun s=>.go (.iso t.at_ s.text)) .no) <|
   .look (tW qh9) (.eat fun t=>.look tN (.eat fun s=>.go (.fun_ 53 t.at_ s.text)) .no) <|
   .look (tW qc5) (.eat fun t=>.look tN (.eat fun s=>.go (.fun_ 54 t.at_ s.text)) .no) .no
 |.recs a s ns=>.sub .param fun n=>qbG [59] (.look (tM [125]) (.eat fun _=>.done (.mk 51 a 0 s (ns++[n]))) (.go (.recs a s (ns++[n]))))
 |.iso a s=>
   .look (tM [91]) (.eat fun t=>.look (tM [93]) (.eat fun _=>.subE .typ fun n=>.go (.by_ a s 0 (.mk 5 t.at_ 0 [] [n])))
     (.look (fun u=>decide (u.kind=2)&&!decide (u.n=0)) (.eat fun u=>qbG [93] (.go (.kind a s u.n))) .no)) (.go (.kind a s 0))
 |.kind a s n=>.subE .typ fun t=>.go (.by_ a s n t)
 |.by_ a s n t=>.look (tW sBy) (.eat fun _=>.look tN (.eat fun u=>qbG [59] (.done (.mk 52 a n s [t,.mk 12 u.at_ 0 u.text []]))) .no) (qbG [59] (.done (.mk 52 a n s [t])))
 |.fun_ k a s=>qbG [40] (if k=53 then .look (tM [41]) (.eat fun _=>.go (.tail k a s [])) (.go (.funs k a s [])) else .go (.funs k a s []))
 |.funs k a s ns=>.sub .param fun n=>
   if k=53 then .look (tM [41]) (.eat fun _=>.go (.tail k a s (ns++[n]))) (qbG [44] (.go (.funs k a s (ns++[n]))))
   else if ns.length=2 then .look (tM [41]) (.eat fun _=>.go (.tail k a s (ns++[n]))) .no
   else qbG [44] (.go (.funs k a s (ns++[n])))
 |.tail k a s ns=>
   if k=53 then .look (tM [123]) (.sub .block fun b=>.done (.mk k a 0 s (ns++[.mk 0 0 0 [] [],b]))) (.subE .typ fun t=>.sub .block fun b=>.done (.mk k a 0 s (ns++[t,b])))
   else .sub .block fun b=>.done (.mk k a 0 s (ns++[b]))
 |.decls ns=>.look (tW qbX) (.eat fun _=>.sub .block fun b=>.done (.mk 55 0 0 [] (ns++[b]))) (.sub .decl fun d=>.go (.decls (ns++[d])))
def qB(l:List Tk):Nat→SM→Int→Option Res
 |0,_,_=>none
 |f+1,m,i=>ev l (qB l f) (prog m) i
theorem qE(l:List Tk)(f:Nat)(m:SM)(i:Int):qB l (f+1) m i=ev l (qB l f) (prog m) i:=by rw[qB]
theorem qfm(l:List Tk){R R':SM→Int→Option Res}(h:∀m i,Le (R m i) (R' m i)):∀(p:Pr) (i:Int),Le (ev l R p i) (ev l R' p i)
 |.done _,_=>.rfl
 |.no,_=>.rfl
 |.look _ a b,i=>by simp only[ev];exact qY (qfm l h a i) (qfm l h b i)
 |.eat k,i=>by simp only[ev];exact qY .rfl (qfm l h (k _) _)
 |.sub m k,i=>by simp only[ev];exact qa8 (h _ _) fun n j=>qfm l h (k n) j
 |.subE m k,i=>by simp only[ev];exact qa8 .rfl fun n j=>qfm l h (k n) j
 |.subL k,i=>by simp only[ev];exact qgB .rfl fun n j=>qfm l h (k n) j
 |.go m,i=>by simp only[ev];exact h _ _
theorem qgg(l:List Tk):∀(f:Nat) (m:SM) (i:Int),Le (qB l f m i) (qB l (f+1) m i)
 |0,m,i=>fun r h=>by rw[qB]at h;cases h
 |f+1,m,i=>by
   rw[qE,qE l (f+1)];exact qfm l (qgg l f) (prog m) i
theorem qeX(l:List Tk){f f':Nat}(hf:f≤f')(m:SM)(i:Int):Le (qB l f m i) (qB l f' m i):=by
 obtain⟨d,rfl⟩:∃d,f'=f+d:=⟨f'-f,by omega⟩;clear hf
 induction d with
 |zero=>exact .rfl
 |succ d ih=>exact fun r h=>qgg l (f+d) m i r (ih r h)
theorem qc3(l:List Tk){f f':Nat}{m:SM}{i:Int}{r r':Res}(h:qB l f m i=some r)(h':qB l f' m i=some r'):r=r':=by
 have h1:=qeX l (Nat.le_max_left f f') m i r h;have h2:=qeX l (Nat.le_max_right f f') m i r' h';rw[h1]at h2;exact Option.some.inj h2
def SM.rank:SM→Nat
 |.block=>1
 |.headed _=>1
 |.named=>1
 |.choice=>2
 |.stmt=>3
 |.blk _ _=>4
 |.place _=>1
 |.param=>1
 |.decl=>1
 |.recs _ _ _=>2
 |.by_ _ _ _ _=>1
 |.kind _ _ _=>1
 |.iso _ _=>2
 |.tail _ _ _ _=>2
 |.fun_ _ _ _=>1
 |.funs _ _ _ _=>2
 |.decls _=>2
def SM.strict:SM→Bool
 |.blk _ _=>true
 |.place _=>true
 |_=>true
def Fit(r:Nat):Bool→Pr→Prop
 |mv,.done _=>mv=true
 |_,.no=>True
 |mv,.look c a b=>(∀t,c t=true→t.kind≠0)∧Fit r mv a∧Fit r mv b
 |_,.eat k=>∀t,Fit r true (k t)
 |mv,.sub m k=>(mv=true∨m.rank<r)∧∀n,Fit r true (k n)
 |_,.subE m k=>(m.lists=false∧m.strict=true)∧∀n,Fit r true (k n)
 |_,.subL k=>∀n,Fit r true (k n)
 |mv,.go m=>mv=true∨m.rank<r
theorem qmt(m:List UInt8):∀t,tM m t=true→t.kind≠0:=fun t h=>by
 unfold tM at h;simp only[Bool.and_eq_true,decide_eq_true_eq]at h;rw[h.1];decide
theorem qmu(m:List UInt8):∀t,tW m t=true→t.kind≠0:=fun t h=>by
 unfold tW at h;simp only[Bool.and_eq_true,decide_eq_true_eq]at h;rw[h.1];decide
theorem qot:∀t,tN t=true→t.kind≠0:=fun t h=>by
 unfold tN at h;simp only[decide_eq_true_eq]at h;rw[h];decide
theorem qdA{r:Nat}{mv:Bool}{m:List UInt8}{a b:Pr}(ha:Fit r mv a)(hb:Fit r mv b):Fit r mv (.look (tM m) a b):=⟨qmt m,ha,hb⟩
theorem qdX{r:Nat}{mv:Bool}{m:List UInt8}{a b:Pr}(ha:Fit r mv a)(hb:Fit r mv b):Fit r mv (.look (tW m) a b):=⟨qmu m,ha,hb⟩
theorem qff{r:Nat}{mv:Bool}{a b:Pr}(ha:Fit r mv a)(hb:Fit r mv b):Fit r mv (.look tN a b):=⟨qot,ha,hb⟩
theorem qeT{r:Nat}{mv:Bool}{c:Prop}[Decidable c]{a b:Pr}(ha:Fit r mv a)(hb:Fit r mv b):Fit r mv (if c then a else b):=by
 by_cases h:c
 · rw[if_pos h];exact ha
 · rw[if_neg h];exact hb
theorem qaJ{r:Nat}{mv:Bool}{m:List UInt8}{p:Pr}(h:Fit r true p):Fit r mv (qbG m p):=qdA (fun _=>h) trivial
theorem qdY{r:Nat}{mv:Bool}{k:NT→NT}:Fit r mv (qiG k):=⟨⟨rfl,rfl⟩,fun _=>qaJ rfl⟩
theorem fit(m:SM):Fit m.rank false (prog m):=by
 cases m with
 |stmt=>exact qdA (Or.inr (by decide)) <|qff (Or.inr (by decide)) <|qdX (Or.inr (by decide)) <|qdX (Or.inr (by simp[SM.rank])) <|qdX (fun _=>qdA (fun _=>rfl) qdY) <|qdX (fun _=>qdY) <|qdX (fun _=>qff (fun _=>qaJ qdY) trivial) <|qdX (fun _=>qff (fun _=>qaJ rfl) trivial) trivial
 |block=>exact qdA (fun _=>Or.inl rfl) trivial
 |blk a ns=>exact qdA (fun _=>rfl) ⟨Or.inr (by simp[SM.rank]),fun _=>Or.inl rfl⟩
 |headed k=>exact fun _=>⟨⟨rfl,rfl⟩,fun _=>⟨Or.inl rfl,fun _=>rfl⟩⟩
 |choice=>exact⟨Or.inr (by simp[SM.rank]),fun _=>qdX (fun _=>qdX ⟨Or.inl rfl,fun _=>rfl⟩ ⟨Or.inl rfl,fun _=>rfl⟩) rfl⟩
 |named=>exact qff (fun _=>qdA (fun _=>qaJ rfl) (Or.inl rfl)) trivial
 |place n=>exact qdA (fun _=>qff (fun _=>Or.inl rfl) trivial) <|qdA (fun _=>⟨⟨rfl,rfl⟩,fun _=>qaJ (Or.inl rfl)⟩) <|qdA (fun _=>qdY) trivial
 |param=>exact qff (fun _=>⟨⟨rfl,rfl⟩,fun _=>rfl⟩) trivial
 |decl=>exact qdX (fun _=>qff (fun _=>qaJ (Or.inl rfl)) trivial) <|qdX (fun _=>qff (fun _=>Or.inl rfl) trivial) <|qdX (fun _=>qff (fun _=>Or.inl rfl) trivial) <|qdX (fun _=>qff (fun _=>Or.inl rfl) trivial) trivial
 |recs a s ns=>exact⟨Or.inr (by simp[SM.rank]),fun _=>qaJ (qdA (fun _=>rfl) (Or.inl rfl))⟩
 |iso a s=>exact qdA (fun _=>qdA (fun _=>⟨⟨rfl,rfl⟩,fun _=>Or.inl rfl⟩) ⟨fun t h=>by simp only[Bool.and_eq_true,decide_eq_true_eq]at h;rw[h.1];decide,fun _=>qaJ (Or.inl rfl),trivial⟩) (Or.inr (by simp[SM.rank]))
 |kind a s n=>exact⟨⟨rfl,rfl⟩,fun _=>Or.inl rfl⟩
 |by_ a s n t=>exact qdX (fun _=>qff (fun _=>qaJ rfl) trivial) (qaJ rfl)
 |fun_ k a s=>exact qaJ (qeT (qdA (fun _=>Or.inl rfl) (Or.inl rfl)) (Or.inl rfl))
 |funs k a s ns=>exact⟨Or.inr (by simp[SM.rank]),fun _=>qeT (qdA (fun _=>Or.inl rfl) (qaJ (Or.inl rfl))) (qeT (qdA (fun _=>Or.inl rfl) trivial) (qaJ (Or.inl rfl)))⟩
 |tail k a s ns=>exact qeT (qdA ⟨Or.inr (by simp[SM.rank]),fun _=>rfl⟩ ⟨⟨rfl,rfl⟩,fun _=>⟨Or.inl rfl,fun _=>rfl⟩⟩) ⟨Or.inr (by simp[SM.rank]),fun _=>rfl⟩
 |decls ns=>exact qdX (fun _=>⟨Or.inl rfl,fun _=>rfl⟩) ⟨Or.inr (by simp[SM.rank]),fun _=>Or.inl rfl⟩
def qli(len:Int)(i:Int):Res→Prop
 |.node _ j=>0≤i∧i<j∧j≤len
 |.list _ _=>False
 |.no j=>i≤j∧(i≤len→j≤len)
theorem qb2(l:List Tk)(R:SM→Int→Option Res)(ih:∀m i r,R m i=some r→qli l.length i r)(rk:Nat):∀(p:Pr) (mv:Bool) (i:Int) (r:Res),Fit rk mv p→(mv=true→0<i∧i≤l.length)→ev l R p i=some r→
   (match r with|.node _ j=>i≤j∧j≤l.length∧0≤i∧(mv=false→i<j)|.list _ _=>False|.no j=>i≤j∧(i≤l.length→j≤l.length))
 |.done n,mv,i,r,hf,hm,h=>by
   simp only[ev]at h;cases h;have e:mv=true:=hf;have:=hm e
   exact⟨Int.le_refl _,this.2,by omega,fun e2=>by rw[e]at e2;cases e2⟩
 |.no,mv,i,r,hf,hm,h=>by
   simp only[ev]at h;cases h
   exact⟨Int.le_refl _,fun h=>h⟩
 |.look c a b,mv,i,r,hf,hm,h=>by
   simp only[ev]at h;by_cases hc:c (qh l i)=true
   · rw[if_pos hc]at h;exact qb2 l R ih rk a mv i r hf.2.1 hm h
   · rw[if_neg hc]at h;exact qb2 l R ih rk b mv i r hf.2.2 hm h
 |.eat k,mv,i,r,hf,hm,h=>by
   simp only[ev]at h;by_cases hk:(qh l i).kind=0
   · rw[if_pos hk]at h;cases h;exact⟨Int.le_refl _,fun h=>h⟩
   · rw[if_neg hk]at h;have hi:=qC hk;have e:=qb2 l R ih rk (k (qh l i)) true (i+1) r (hf _) (fun _=>by omega) h
     cases r with
     |node n j=>simp only at e ⊢;omega
     |list n j=>exact e
     |no j=>simp only at e ⊢;omega
 |.sub m k,mv,i,r,hf,hm,h=>by
   simp only[ev]at h;rcases qA h with⟨n,j,ho,hr⟩|⟨j,ho,rfl⟩
   · obtain⟨g0,g1,g2⟩:=ih _ _ _ ho;have e:=qb2 l R ih rk (k n) true j r (hf.2 _) (fun _=>by omega) hr
     cases r with
     |node n j=>simp only at e ⊢;omega
     |list n j=>exact e
     |no j=>simp only at e ⊢;omega
   · exact ih _ _ _ ho
 |.subE m k,mv,i,r,hf,hm,h=>by
   simp only[ev]at h;rcases qA h with⟨n,j,ho,hr⟩|⟨j,ho,rfl⟩
   · obtain⟨_,g1,g2,g3⟩:=qT l _ _ _ _ ho;have g3:=g3 hf.1.2;have e:=qb2 l R ih rk (k n) true j r (hf.2 _) (fun _=>by omega) hr
     cases r with
     |node n j=>simp only at e ⊢;omega
     |list n j=>exact e
     |no j=>simp only at e ⊢;omega
   · exact qT l _ _ _ _ ho
 |.subL k,mv,i,r,hf,hm,h=>by
   simp only[ev]at h;rcases qbe h with⟨n,j,ho,hr⟩|⟨j,ho,rfl⟩
   · obtain⟨_,g1,g2,g3⟩:=qT l _ _ _ _ ho;have g3:=g3 rfl;have e:=qb2 l R ih rk (k n) true j r (hf _) (fun _=>by omega) hr
     cases r with
     |node n j=>simp only at e ⊢;omega
     |list n j=>exact e
     |no j=>simp only at e ⊢;omega
   · exact qT l _ _ _ _ ho
 |.go m,mv,i,r,hf,hm,h=>by
   simp only[ev]at h;have e:=ih _ _ _ h
   cases r with
   |node n j=>obtain⟨e0,e1,e2⟩:=e;exact⟨by omega,e2,e0,fun _=>e1⟩
   |list n j=>exact e
   |no j=>exact e
theorem qaq(l:List Tk):∀(f:Nat) (m:SM) (i:Int) (r:Res),qB l f m i=some r→qli l.length i r
 |0,m,i,r,h=>by rw[qB]at h;cases h
 |f+1,m,i,r,h=>by
   rw[qE]at h;have e:=qb2 l (qB l f) (qaq l f) m.rank (prog m) false i r (fit m) (fun h=>by cases h) h
   cases r with
   |node n j=>obtain⟨_,e1,e2,e3⟩:=e;exact⟨e2,e3 rfl,e1⟩
   |list n j=>exact e
   |no j=>exact e
def qdZ(l:List Tk)(m:SM)(i:Int):Nat:=5*qdz l i+m.rank
theorem qea(m:SM):1≤m.rank∧m.rank≤4:=by cases m<;>simp[SM.rank]
theorem qdH(l:List Tk)(R:SM→Int→Option Res)(he:∀m i r,R m i=some r→qli l.length i r)(rk:Nat)(i0:Int)(hlow:∀m,m.rank<rk→∃r,R m i0=some r)(hfar:∀m i,0≤i0→i0<(l.length:Int)→i0<i→∃r,R m i=some r):∀(p:Pr) (mv:Bool) (i:Int),Fit rk mv p→(mv=true→0≤i0∧i0<(l.length:Int)∧i0<i)→(mv=false→i=i0)→∃r,ev l R p i=some r
 |.done n,mv,i,hf,hm,h0=>⟨_,rfl⟩
 |.no,mv,i,hf,hm,h0=>⟨_,rfl⟩
 |.look c a b,mv,i,hf,hm,h0=>by
   simp only[ev];by_cases hc:c (qh l i)=true
   · rw[if_pos hc];exact qdH l R he rk i0 hlow hfar a mv i hf.2.1 hm h0
   · rw[if_neg hc];exact qdH l R he rk i0 hlow hfar b mv i hf.2.2 hm h0
 |.eat k,mv,i,hf,hm,h0=>by
   simp only[ev];by_cases hk:(qh l i).kind=0
   · rw[if_pos hk];exact⟨_,rfl⟩
   · rw[if_neg hk];have hi:=qC hk;refine qdH l R he rk i0 hlow hfar _ true _ (hf _) (fun _=>?_) (fun h=>by cases h)
     cases mv with
     |true=>have:=hm rfl;omega
     |false=>have:=h0 rfl;omega
 |.sub m k,mv,i,hf,hm,h0=>by
   simp only[ev]
   have hx:∃r,R m i=some r:=by
     cases mv with
     |true=>obtain⟨a,b,c⟩:=hm rfl;exact hfar m i a b c
     |false=>rw[h0 rfl];exact hlow m (hf.1.resolve_left (by decide))
   obtain⟨x,hx⟩:=hx
   cases x with
   |node n j=>
     obtain⟨g0,g1,g2⟩:=he _ _ _ hx
     obtain⟨r,hr⟩:=qdH l R he rk i0 hlow hfar (k n) true j (hf.2 _) (fun _=>by
       cases mv with
       |true=>have:=hm rfl;omega
       |false=>have:=h0 rfl;omega) (fun h=>by cases h)
     exact⟨r,by rw[hx];exact hr⟩
   |list n j=>exact absurd (he _ _ _ hx) (fun h=>h)
   |no j=>exact⟨.no j,by rw[hx];rfl⟩
 |.subE m k,mv,i,hf,hm,h0=>by
   simp only[ev];obtain⟨x,hx⟩:=qa2 l m i;have hx':E l m i=some x:=hx
   cases x with
   |node n j=>
     obtain⟨_,g1,g2,g3⟩:=qT l _ _ _ _ hx;have g3:=g3 hf.1.2
     obtain⟨r,hr⟩:=qdH l R he rk i0 hlow hfar (k n) true j (hf.2 _) (fun _=>by
       cases mv with
       |true=>have:=hm rfl;omega
       |false=>have:=h0 rfl;omega) (fun h=>by cases h)
     exact⟨r,by rw[hx'];exact hr⟩
   |list n j=>exact absurd (qT l _ _ _ _ hx).1 (by rw[hf.1.1];decide)
   |no j=>exact⟨.no j,by rw[hx'];rfl⟩
 |.subL k,mv,i,hf,hm,h0=>by
   simp only[ev];obtain⟨x,hx⟩:=qa2 l .args i;have hx':E l .args i=some x:=hx
   cases x with
   |list n j=>
     obtain⟨_,g1,g2,g3⟩:=qT l _ _ _ _ hx;have g3:=g3 rfl
     obtain⟨r,hr⟩:=qdH l R he rk i0 hlow hfar (k n) true j (hf _) (fun _=>by
       cases mv with
       |true=>have:=hm rfl;omega
       |false=>have:=h0 rfl;omega) (fun h=>by cases h)
     exact⟨r,by rw[hx'];exact hr⟩
   |node n j=>exact absurd (qT l _ _ _ _ hx).1 (by simp[qL.lists])
   |no j=>exact⟨.no j,by rw[hx'];rfl⟩
 |.go m,mv,i,hf,hm,h0=>by
   simp only[ev]
   cases mv with
   |true=>obtain⟨a,b,c⟩:=hm rfl;exact hfar m i a b c
   |false=>rw[h0 rfl];exact hlow m (Or.resolve_left hf (by decide))
theorem qjh(l:List Tk):∀(d:Nat) (m:SM) (i:Int),qdz l i≤d→∃r,qB l (qdZ l m i) m i=some r:=by
 intro d
 induction d using Nat.strongRecOn with
 |_ d ihd=>
   have main:∀(k:Nat) (m:SM) (i:Int),m.rank≤k→qdz l i≤d→∃r,qB l (qdZ l m i) m i=some r:=by
     intro k
     induction k with
     |zero=>intro m i hk;have:=qea m;omega
     |succ k ihk=>
       intro m i hk hd;by_cases hlt:m.rank≤k
       · exact ihk m i hlt hd
       have hr:=qea m;have e:qdZ l m i=(5*qdz l i+(m.rank-1))+1:=by unfold qdZ;omega
       rw[e,qE];refine qdH l _ (qaq l _) m.rank i (fun m' hm'=>?_) (fun m' i' h0 h1 h2=>?_) (prog m) false i (fit m) (fun h=>by cases h) (fun _=>rfl)
       · obtain⟨r,h⟩:=ihk m' i (by omega) hd;exact⟨r,qeX l (by unfold qdZ;omega) m' i r h⟩
       · have hdi:qdz l i'<qdz l i:=by unfold qdz;omega
         obtain⟨r,h⟩:=ihd (qdz l i') (by omega) m' i' qe;have:=qea m';exact⟨r,qeX l (by unfold qdZ;omega) m' i' r h⟩
   intro m i h;exact main 4 m i (qea m).2 h
theorem qfE(l:List Tk)(m:SM)(i:Int):∃r,qB l (qdZ l m i) m i=some r:=qjh l _ m i qe
end Go.Proofs.YtdndfifkfjoffaaGreatDoor.pm

/- Rows of values of a call's own, beside other blocks: what stays where something else is written; a row cut in two. (and what it stands on) -/
import Derived.Test.YtdndfifkfjoffaaGreatDoorZaa
import Derived.Test.YtdndfifkfjoffaaGreatDoorZac
import Derived.KernelRfl
import Derived.Test.YtdndfifkfjoffaaGreatDoorZad
import Derived.Test.YtdndfifkfjoffaaGreatDoorZae
import Derived.LoopTactic
import Derived.BigQuiet
import Derived.Test.YtdndfifkfjoffaaGreatDoorZag
import Derived.Deep.RegionHeld
import Derived.Test.YtdndfifkfjoffaaGreatDoorZab
import Derived.Laws.Rows
import Derived.ChangeKeysEq
import Derived.Deep.MidRow
import Derived.Shelf.Strings.Trim
import Derived.Shelf.Strings.SlTrimAscii
import Derived.Shelf.Small.Utf8
import Derived.Shelf.Small.Strs
import Derived.Shelf.Strings.Search1
import Derived.Shelf.Strings.Search2
import Derived.Shelf.Strings.Search3
import Derived.Shelf.LaysM
import Derived.Shelf.Strings.Shaped
import Derived.Shelf.Strings.Runes
import Derived.Shelf.Strings.AsciiSet
import Derived.Shelf.Unicode.DecodeSlow
import Derived.Test.YtdndfifkfjoffaaGreatDoorProg
set_option maxRecDepth 100000
set_option maxHeartbeats 4000000
namespace Go.Proofs.YtdndfifkfjoffaaGreatDoor.nt
open Go.RowKit mem
open vt (I64 qaI)
mutual
def NT.Has(G:Nat→Prop)(w:World):NT→Value→Prop
 |.mk _ _ _ _ l,s=>∃A cap,s=.slice A l.length cap∧(l.length≤9223372036854775807∧(A=none→cap=0)∧l.length≤cap)∧(0<l.length→∃b off,A=some ⟨b,off,none⟩∧G b∧Row G w b l off)
def Row(G:Nat→Prop)(w:World)(b:Nat):List NT→Nat→Prop
 |[],_=>True
 |v::r,off=>((I64 v.kind∧I64 v.at_∧I64 v.num∧v.name.length≤281474976710656)∧w.cell? ⟨b,off,none⟩=some (.int .i64 v.kind)∧w.cell? ⟨b,off+1,none⟩=some (.int .i64 v.at_)∧w.cell? ⟨b,off+2,none⟩=some (.int .i64 v.num)∧w.cell? ⟨b,off+3,none⟩=some (.string ⟨v.name.toArray⟩)∧∃s,w.cell? ⟨b,off+4,none⟩=some s∧v.Has G w s)∧Row G w b r (off+5)
end
def ql(G:Nat→Prop)(w:World)(l:List NT)(s:Value):Prop:=
 ∃A cap,s=.slice A l.length cap∧(l.length≤9223372036854775807∧(A=none→cap=0)∧l.length≤cap)∧(0<l.length→∃b off,A=some ⟨b,off,none⟩∧G b∧Row G w b l off)
theorem qfh{G:Nat→Prop}{w:World}{t:NT}{s:Value}:t.Has G w s↔ql G w t.kids s:=by cases t;rw[NT.Has];rfl
def Hd(v:NT):Prop:=I64 v.kind∧I64 v.at_∧I64 v.num∧v.name.length≤281474976710656
def qcd(G:Nat→Prop)(w:World)(b off:Nat)(v:NT):Prop:=
 Hd v∧w.cell? ⟨b,off,none⟩=some (.int .i64 v.kind)∧w.cell? ⟨b,off+1,none⟩=some (.int .i64 v.at_)∧w.cell? ⟨b,off+2,none⟩=some (.int .i64 v.num)∧w.cell? ⟨b,off+3,none⟩=some (.string ⟨v.name.toArray⟩)∧∃s,w.cell? ⟨b,off+4,none⟩=some s∧ql G w v.kids s
theorem qbt{G:Nat→Prop}{w:World}{b off:Nat}{v:NT}{r:List NT}:Row G w b (v::r) off↔qcd G w b off v∧Row G w b r (off+5):=by
 rw[Row];unfold qcd Hd;simp only[qfh]
theorem qc0{G:Nat→Prop}{w:World}{b:Nat}:∀{l:List NT} {off:Nat},Row G w b l off→∀(k:Nat) (hk:k<l.length),qcd G w b (off+k*5) l[k]
 |v::r,off,h,0,_=>by rw[qbt]at h;simpa using h.1
 |v::r,off,h,k+1,hk=>by
   rw[qbt]at h;have:=qc0 h.2 k (by simpa using hk);rw[show off+5+k*5=off+(k+1)*5 by omega]at this;simpa using this
theorem qc1{G:Nat→Prop}{w:World}{b:Nat}:∀{l:List NT} {off:Nat},(∀(k:Nat) (hk:k<l.length),qcd G w b (off+k*5) l[k])→Row G w b l off
 |[],_,_=>by rw[Row];trivial
 |v::r,off,h=>by
   rw[qbt];refine⟨h 0 (by simp),qc1 fun k hk=>?_⟩;have:=h (k+1) (by simpa using hk);rw[show off+(k+1)*5=off+5+k*5 by omega]at this;simpa using this
theorem ql.at_{G:Nat→Prop}{w:World}{l:List NT}{s:Value}(h:ql G w l s)(k:Nat)(hk:k<l.length):
   ∃b off cap,s=.slice (some ⟨b,off,none⟩) l.length cap∧G b∧qcd G w b (off+k*5) l[k]:=by
 obtain⟨A,cap,hs,_,h⟩:=h;obtain⟨b,off,rfl,hb,h⟩:=h (by omega);exact⟨b,off,cap,hs,hb,qc0 h k hk⟩
theorem ql.form{G:Nat→Prop}{w:World}{l:List NT}{s:Value}(h:ql G w l s):∃A cap,s=.slice A l.length cap∧l.length≤9223372036854775807:=by
 obtain⟨A,cap,hs,hl,_⟩:=h;exact⟨A,cap,hs,hl.1⟩
theorem ql.nil_(G:Nat→Prop)(w:World):ql G w [] (.slice none 0 0):=⟨none,0,rfl,⟨by simp,fun _=>rfl,by simp⟩,fun h=>absurd h (by simp)⟩
theorem qdI{G G':Nat→Prop}{w w':World}(hc:∀b o v,G b→w.cell? ⟨b,o,none⟩=some v→G' b∧w'.cell? ⟨b,o,none⟩=some v):∀(t:NT) (s:Value),ql G w t.kids s→ql G' w' t.kids s:=by
 intro t
 induction t using NT.ind with
 |h k a n nm l ih=>
   intro s h;obtain⟨A,cap,hs,hl,h⟩:=h;refine⟨A,cap,hs,hl,fun h0=>?_⟩;obtain⟨b,off,hA,hb,h⟩:=h h0
   have hcell:∀(k:Nat) (hk:k<l.length),G' b∧qcd G' w' b (off+k*5) l[k]:=by
     intro k hk;obtain⟨i1,c0,c1,c2,c3,s',c4,h3⟩:=qc0 h k hk;exact⟨(hc _ _ _ hb c1).1,i1,(hc _ _ _ hb c0).2,(hc _ _ _ hb c1).2,(hc _ _ _ hb c2).2,(hc _ _ _ hb c3).2,s',(hc _ _ _ hb c4).2,ih _ (List.getElem_mem hk) s' h3⟩
   exact⟨b,off,hA,(hcell 0 h0).1,qc1 fun k hk=>(hcell k hk).2⟩
theorem ql.carry{G G':Nat→Prop}{w w':World}{l:List NT}{s:Value}(h:ql G w l s)(hc:∀b o v,G b→w.cell? ⟨b,o,none⟩=some v→G' b∧w'.cell? ⟨b,o,none⟩=some v):ql G' w' l s:=
 qdI hc (.mk 0 0 0 [] l) s h
theorem ql.mono{G G':Nat→Prop}{w:World}{l:List NT}{s:Value}(h:ql G w l s)(hg:∀b,G b→G' b):ql G' w l s:=h.carry fun b _ _ hb hc=>⟨hg b hb,hc⟩
theorem ql.keep{G:Nat→Prop}{w w':World}{l:List NT}{s:Value}(h:ql G w l s)(hk:∀b o,G b→b<w.heap.size→w'.cell? ⟨b,o,none⟩=w.cell? ⟨b,o,none⟩):ql G w' l s:=
 h.carry fun b o _ hb hc=>⟨hb,(hk b o hb (World.block_lt_of_cell? _ _ hc)).trans hc⟩
theorem ql.below{G:Nat→Prop}{w w':World}{l:List NT}{s:Value}(h:ql G w l s)(hb:Below w.heap.size w w'):ql G w' l s:=
 h.keep fun b' o _ hlt=>hb.cell (p:=⟨b',o,none⟩) hlt
theorem ql.lt{G:Nat→Prop}{w:World}{l:List NT}{s:Value}(h:ql G w l s):ql (fun b=>G b∧b<w.heap.size) w l s:=
 h.carry fun _ _ _ hb hc=>⟨⟨hb,World.block_lt_of_cell? _ _ hc⟩,hc⟩
theorem ql.drewN{G:Nat→Prop}{w:World}{l:List NT}{s:Value}(h:ql G w l s)(q:Nat):ql G (w.drewN q) l s:=h.keep fun _ _ _ _=>rfl
theorem ql.kid{G:Nat→Prop}{w wr:World}{l:List NT}{s:Value}(h:ql G w l s)(hb:Below w.heap.size w wr)(k:Nat)(hk:k<l.length):
   ∃b off cap s',s=.slice (some ⟨b,off,none⟩) l.length cap∧b<wr.heap.size∧Hd l[k]∧wr.cell? ⟨b,off+k*5,none⟩=some (.int .i64 l[k].kind)∧wr.cell? ⟨b,off+k*5+1,none⟩=some (.int .i64 l[k].at_)∧wr.cell? ⟨b,off+k*5+2,none⟩=some (.int .i64 l[k].num)∧wr.cell? ⟨b,off+k*5+3,none⟩=some (.string ⟨l[k].name.toArray⟩)∧wr.cell? ⟨b,off+k*5+4,none⟩=some s'∧ql G wr l[k].kids s':=by
 obtain⟨b,off,cap,hs,hG,i1,c0,c1,c2,c3,s',c4,h3⟩:=(h.below hb).at_ k hk;exact⟨b,off,cap,s',hs,World.block_lt_of_cell? _ _ c1,i1,c0,c1,c2,c3,c4,h3⟩
theorem qmH(w:World):(sizeOf (Tryz.prog.elem 27)).run Tryz.prog w=.ok 5 w:=by kernel_rfl
theorem qlH:Tryz.prog.underlying 27=some (.slice (Tryz.prog.elem 27)):=by kernel_rfl
theorem ql.drop{G:Nat→Prop}{w:World}{l:List NT}{A:Option Addr}{n cap:Nat}(h:ql G w l (.slice A n cap))(k:Nat)(hk:k≤l.length):ql G w (l.drop k) (sliced A k n cap 5):=by
 obtain⟨A',cap',hs,hl,h⟩:=h;injection hs with h1 h2 h3
 subst h1;subst h3;subst h2;unfold sliced;refine⟨_,_,by rw[List.length_drop],⟨by rw[List.length_drop];omega,fun hA=>?_,by rw[List.length_drop];omega⟩,fun h0=>?_⟩
 · cases A with
   |none=>have:=hl.2.1 rfl;omega
   |some a=>split at hA<;>cases hA
 · rw[List.length_drop]at h0;obtain⟨b,off,rfl,hb,h⟩:=h (by omega);refine⟨b,off+k*5,?_,hb,qc1 fun j hj=>?_⟩
   · rw[if_neg (by omega)];show some ((⟨b,off,none⟩:Addr).add (k*5))=_
     rw[qaI]
   · rw[List.length_drop]at hj;have:=qc0 h (k+j) (by omega);rw[List.getElem_drop,show off+k*5+j*5=off+(k+j)*5 by omega];exact this
end Go.Proofs.YtdndfifkfjoffaaGreatDoor.nt
namespace Go.Proofs.YtdndfifkfjoffaaGreatDoor.nt
open Go.RowKit mem wd lx
open vt (I64 qt)
theorem qcl{s:List UInt8}{e:Int}{p:Nat}{ts:List Tok}(h:qfP s=(e,p,ts))(he:e≠0∨ts.length≠2):named s=false:=by
 unfold named;rw[h];rcases he with he|he
 · simp[he]
 · match ts,he with
   |[],_=>simp
   |[_],_=>simp
   |[_,_],he=>simp at he
   |_::_::_::_,_=>simp
theorem qf9{s:List UInt8}{p:Nat}{t u:Tok}(h:qfP s=(0,p,[t,u])):named s=(decide (t.kind=1)&&decide (t.text=s)):=by
 unfold named;rw[h];simp
end Go.Proofs.YtdndfifkfjoffaaGreatDoor.nt
namespace Go.Proofs.YtdndfifkfjoffaaGreatDoor.nt
open Go.RowKit mem wd lx
open vt (I64 qt)
abbrev qi:TypeId:=29
end Go.Proofs.YtdndfifkfjoffaaGreatDoor.nt
namespace Go.Proofs.YtdndfifkfjoffaaGreatDoor.nt
open Go.RowKit mem
open vt (I64 qft qt qv qad)
def qI(G:Nat→Prop)(w:World):List NT→List Value→Prop
 |[],vs=>vs=[]
 |v::r,vs=>∃s rest,vs=.int .i64 v.kind::.int .i64 v.at_::.int .i64 v.num::.string ⟨v.name.toArray⟩::s::rest∧Hd v∧ql G w v.kids s∧qI G w r rest
theorem qI.len{G:Nat→Prop}{w:World}:∀{l:List NT} {vs:List Value},qI G w l vs→vs.length=l.length*5
 |[],vs,h=>by rw[qI]at h;subst h;rfl
 |v::r,vs,h=>by
   rw[qI]at h;obtain⟨s,rest,rfl,_,_,hr⟩:=h;have:=qI.len hr;simp only[List.length_cons];omega
theorem qI.one{G:Nat→Prop}{w:World}:∀{l:List NT} {vs:List Value},qI G w l vs→∀u∈vs,u.oneCell'=true
 |[],vs,h=>by rw[qI]at h;subst h;intro u hu;cases hu
 |v::r,vs,h=>by
   rw[qI]at h;obtain⟨s,rest,rfl,_,hk,hr⟩:=h;obtain⟨A,cap,rfl,_⟩:=hk.form;have:=qI.one hr;intro u hu;simp only[List.mem_cons]at hu;rcases hu with rfl|rfl|rfl|rfl|rfl|hu
   · rfl
   · rfl
   · rfl
   · rfl
   · rfl
   · exact this u hu
theorem qI.append{G:Nat→Prop}{w:World}:∀{a b:List NT} {xs ys:List Value},qI G w a xs→qI G w b ys→qI G w (a++b) (xs++ys)
 |[],b,xs,ys,h,h'=>by rw[qI]at h;subst h;exact h'
 |v::r,b,xs,ys,h,h'=>by
   rw[qI]at h;obtain⟨s,rest,rfl,i1,hk,hr⟩:=h;rw[List.cons_append,qI];exact⟨s,rest++ys,rfl,i1,hk,qI.append hr h'⟩
theorem qI.carry{G G':Nat→Prop}{w w':World}(hc:∀b o v,G b→w.cell? ⟨b,o,none⟩=some v→G' b∧w'.cell? ⟨b,o,none⟩=some v):∀{l:List NT} {vs:List Value},qI G w l vs→qI G' w' l vs
 |[],vs,h=>h
 |v::r,vs,h=>by
   rw[qI]at h ⊢;obtain⟨s,rest,rfl,i1,hk,hr⟩:=h;exact⟨s,rest,rfl,i1,hk.carry hc,qI.carry hc hr⟩
theorem qI.mono{G G':Nat→Prop}{w:World}{l:List NT}{vs:List Value}(h:qI G w l vs)(hg:∀b,G b→G' b):qI G' w l vs:=h.carry fun b _ _ hb hc=>⟨hg b hb,hc⟩
theorem qI.keep{G:Nat→Prop}{w w':World}{l:List NT}{vs:List Value}(h:qI G w l vs)(hk:∀b o,G b→b<w.heap.size→w'.cell? ⟨b,o,none⟩=w.cell? ⟨b,o,none⟩):qI G w' l vs:=
 h.carry fun b o _ hb hc=>⟨hb,(hk b o hb (World.block_lt_of_cell? _ _ hc)).trans hc⟩
theorem qI.below{G:Nat→Prop}{w w':World}{l:List NT}{vs:List Value}(h:qI G w l vs)(hb:Below w.heap.size w w'):qI G w' l vs:=
 h.keep fun b' o _ hlt=>hb.cell (p:=⟨b',o,none⟩) hlt
theorem qI.lt{G:Nat→Prop}{w:World}{l:List NT}{vs:List Value}(h:qI G w l vs):qI (fun b=>G b∧b<w.heap.size) w l vs:=
 h.carry fun _ _ _ hb hc=>⟨⟨hb,World.block_lt_of_cell? _ _ hc⟩,hc⟩
theorem qd6{G:Nat→Prop}{w:World}{b:Nat}:∀{l:List NT} {vs:List Value} {off:Nat},qI G w l vs→(∀j u,vs[j]?=some u→w.cell? ⟨b,off+j,none⟩=some u)→Row G w b l off
 |[],_,_,_,_=>by rw[Row];trivial
 |v::r,vs,off,h,hc=>by
   rw[qI]at h;obtain⟨s,rest,rfl,i1,hk,hr⟩:=h;rw[qbt];refine⟨⟨i1,hc 0 _ rfl,hc 1 _ rfl,hc 2 _ rfl,hc 3 _ rfl,s,hc 4 _ rfl,hk⟩,qd6 hr fun j u hu=>?_⟩;rw[show off+5+j=off+(j+5) by omega];exact hc (j+5) u (by simpa using hu)
theorem qfC{G:Nat→Prop}{w:World}{b:Nat}:∀{l:List NT} {off:Nat},Row G w b l off→∃vs,qI G w l vs∧∀j u,vs[j]?=some u→w.cell? ⟨b,off+j,none⟩=some u
 |[],off,_=>⟨[],by rw[qI],fun j u h=>by simp at h⟩
 |v::r,off,h=>by
   rw[qbt]at h;obtain⟨⟨i1,c0,c1,c2,c3,s,c4,hk⟩,hr⟩:=h;obtain⟨vs,hv,hc⟩:=qfC hr;refine⟨.int .i64 v.kind::.int .i64 v.at_::.int .i64 v.num::.string ⟨v.name.toArray⟩::s::vs,by rw[qI];exact⟨s,vs,rfl,i1,hk,hv⟩,fun j u hu=>?_⟩
   match j,hu with
   |0,hu=>simp at hu;subst hu;exact c0
   |1,hu=>simp at hu;subst hu;exact c1
   |2,hu=>simp at hu;subst hu;exact c2
   |3,hu=>simp at hu;subst hu;exact c3
   |4,hu=>simp at hu;subst hu;exact c4
   |j+5,hu=>rw[show off+(j+5)=off+5+j by omega];exact hc j u (by simpa using hu)
def Own(B:Nat)(G:Nat→Prop)(w:World)(l:List NT)(s:Value):Prop:=∃vs,qI G w l vs∧w.ownsRow B qi 5 s l.length vs
theorem Own.kids{B:Nat}{G G':Nat→Prop}{w:World}{l:List NT}{s:Value}(h:Own B G w l s)(hg:∀b,G b→G' b)(hB:∀b,B≤b→G' b):ql G' w l s:=by
 obtain⟨vs,hv,ho⟩:=h;have h1:=ho.1;rcases ho.2 with⟨hs,hn⟩|⟨g,cap,cur,hs,hb,hg',hnc,hcm,hcs,htake⟩
 · exact⟨none,0,by rw[hs,hn],⟨by omega,fun _=>rfl,by omega⟩,fun h=>by omega⟩
 · refine⟨_,cap,hs,⟨by unfold maxLen at hcm;omega,(fun h=>by cases h),hnc⟩,fun h=>⟨g,0,rfl,hB g hb,qd6 (hv.mono hg) fun j u hu=>?_⟩⟩;rw[Nat.zero_add,cell_of_row w g j cur qi (0,0) hg'];rw[←htake,List.getElem?_take]at hu;split at hu
   · simpa using hu
   · cases hu
theorem Own.form{B:Nat}{G:Nat→Prop}{w:World}{l:List NT}{s:Value}(h:Own B G w l s):∃A c,s=.slice A l.length c:=qt h.choose_spec.2
theorem Own.below{B:Nat}{G:Nat→Prop}{w w':World}{l:List NT}{s:Value}(h:Own B G w l s)(hb:Below w.heap.size w w'):Own B G w' l s:=by
 obtain⟨vs,hv,ho⟩:=h;exact⟨vs,hv.below hb,qv ho hb⟩
theorem Own.base{B B':Nat}{G:Nat→Prop}{w:World}{l:List NT}{s:Value}(h:Own B G w l s)(hB:B'≤B):Own B' G w l s:=by
 obtain⟨vs,hv,ho⟩:=h;exact⟨vs,hv,qft ho hB⟩
theorem Own.nil_(B:Nat)(G:Nat→Prop)(w:World):Own B G w [] (.slice none 0 0):=⟨[],by rw[qI],World.ownsRow_nil _ _ _ _⟩
theorem qcX:(Tryz.prog.info? 29).map (fun i=>(i.zero,i.size,i.bytes))=some (some (.agg #[.int .i64 0,.int .i64 0,.int .i64 0,.string ⟨#[]⟩,.slice none 0 0]),5,64):=by kernel_rfl
theorem qgf{B:Nat}{w:World}{l:List NT}{v:Value}(vs:List Value)(hv:qI (fun b=>B≤b) w l vs)(ho:w.ownsRow B qi 5 v l.length vs):ql (fun b=>B≤b) w l v:=
 (show Own B (fun b=>B≤b) w l v from⟨vs,hv,ho⟩).kids (fun _ hb=>hb) (fun _ hb=>hb)
end Go.Proofs.YtdndfifkfjoffaaGreatDoor.nt
namespace Go.Proofs.YtdndfifkfjoffaaGreatDoor.nt
open Go.RowKit mem wd lx
open vt (I64 qft qt qv)
abbrev five(w:World)(R:Nat)(a b c d e:Value):World:=((((w.setCell ⟨R,0,none⟩ a).setCell ⟨R,1,none⟩ b).setCell ⟨R,2,none⟩ c).setCell ⟨R,3,none⟩ d).setCell ⟨R,4,none⟩ e
theorem qj{w:World}{R:Nat}{x y z u v:Value}(h:Box w R qi #[x,y,z,u,v])(a b c d e:Value):Box (five w R a b c d e) R qi #[a,b,c,d,e]:=((((h.set 0 a).set 1 b).set 2 c).set 3 d).set 4 e
theorem qf5(w:World)(R:Nat)(a b c d e:Value)(g o:Nat)(h:g≠R):(five w R a b c d e).cell? ⟨g,o,none⟩=w.cell? ⟨g,o,none⟩:=by
 unfold five;rw[vt.qaw _ _ _ _ _ _ h,vt.qaw _ _ _ _ _ _ h,vt.qaw _ _ _ _ _ _ h,vt.qaw _ _ _ _ _ _ h,vt.qaw _ _ _ _ _ _ h]
theorem qab{G:Nat→Prop}{w:World}{l:List NT}{s:Value}{R:Nat}(h:ql G w l s)(hR:∀b,G b→b≠R)(a b c d e:Value):ql G (five w R a b c d e) l s:=
 h.keep fun b' o hG _=>qf5 w R a b c d e b' o (hR b' hG)
theorem qhL(k a n:Int)(s:List UInt8)(l:List NT)(h1:I64 k)(h2:I64 a)(h3:I64 n)(h4:s.length≤3):Hd (.mk k a n s l):=⟨h1,h2,h3,by show s.length≤_;omega⟩
theorem qcC{w:World}{G:Nat→Prop}{t:NT}{s:Value}{N:Nat}(hN:N=w.heap.size)(hd:Hd t)(hk:ql G w t.kids s)(hG:G N):
   ql G (w.alloc (.cells #[.int .i64 t.kind,.int .i64 t.at_,.int .i64 t.num,.string ⟨t.name.toArray⟩,s] qi)) [t] (.slice (some ⟨N,0,none⟩) 1 1):=by
 have hbx:Box (w.alloc (.cells #[.int .i64 t.kind,.int .i64 t.at_,.int .i64 t.num,.string ⟨t.name.toArray⟩,s] qi)) N qi _:=Box.new _ _ _ _ hN;refine⟨_,_,rfl,⟨by simp,(fun h=>by cases h),by simp⟩,fun _=>⟨N,0,rfl,hG,qc1 fun k hk2=>?_⟩⟩;obtain rfl:k=0:=by simpa using hk2
 exact⟨hd,hbx.cell 0,hbx.cell 1,hbx.cell 2,hbx.cell 3,s,hbx.cell 4,hk.below (qd.alloc qe _)⟩
end Go.Proofs.YtdndfifkfjoffaaGreatDoor.nt
namespace Go.Proofs.YtdndfifkfjoffaaGreatDoor.nt
open Go.RowKit mem wd lx
open vt (I64 qft qt qv qad)
def qdy(B:Nat)(w:World)(l:List NT)(v:Value):Prop:=∃vs,qI (fun b=>B≤b∧some b≠v.ownBlock) w l vs∧w.ownsRow B qi 5 v l.length vs
theorem qdy.nil_(B:Nat)(w:World):qdy B w [] (.slice none 0 0):=⟨[],by rw[qI],World.ownsRow_nil _ _ _ _⟩
theorem qdy.form{B:Nat}{w:World}{l:List NT}{v:Value}(h:qdy B w l v):∃A c,v=.slice A l.length c:=qt h.choose_spec.2
theorem qeu{w w':World}{base size n:Nat}{e:TypeId}{v:Value}{xs:List Value}(h:w.ownsRow base e size v n xs)(hk:∀k,v.ownBlock=some k→w'.heap[k]?=w.heap[k]?):w'.ownsRow base e size v n xs:=by
 refine⟨h.1,?_⟩;rcases h.2 with h'|⟨g,cap,cur,hv,hg,hh,r⟩
 · exact .inl h'
 · exact .inr ⟨g,cap,cur,hv,hg,by rw[hk g (by rw[hv];rfl)];exact hh,r⟩
theorem qdy.grow{B p:Nat}{w w':World}{l:List NT}{v:Value}(h:qdy B w l v)(hg:w.grownBy w' (some p))(hp:p<B):qdy B w' l v:=by
 obtain⟨vs,hv,ho⟩:=h;refine⟨vs,hv.keep fun b o hb hlt=>?_,qeu ho fun k hk=>?_⟩
 · exact World.cell?_of_block (hg.block b hlt (by simpa using(by omega:b≠p)))
 · have:=ho.lt k hk;exact hg.block k this.2 (by simpa using(by omega:k≠p))
theorem qdy.below{B:Nat}{w w':World}{l:List NT}{v:Value}(h:qdy B w l v)(hb:Below w.heap.size w w'):qdy B w' l v:=by
 obtain⟨vs,hv,ho⟩:=h;exact⟨vs,hv.below hb,qv ho hb⟩
theorem qdy.kids{B:Nat}{w:World}{l:List NT}{v:Value}(h:qdy B w l v):ql (fun b=>B≤b) w l v:=by
 obtain⟨vs,hv,ho⟩:=h;exact qgf vs (hv.mono fun b hb=>hb.1) ho
theorem qdy.lt{B:Nat}{w:World}{l:List NT}{v:Value}(h:qdy B w l v):∀k,v.ownBlock=some k→B≤k∧k<w.heap.size:=fun k hk=>h.choose_spec.2.lt k hk
end Go.Proofs.YtdndfifkfjoffaaGreatDoor.nt
namespace Go.Proofs.YtdndfifkfjoffaaGreatDoor.pm
open Go.RowKit wd lx nt ne mem
open vt (I64)
structure Src(l:List Tk)(v:Value)(w:World):Prop where
 lies:qb7 w.heap.size w l v
 len:l.length≤1048576
 fair:∀i,I64 (qh l i).at_∧I64 (qh l i).n∧(qh l i).text.length≤281474976710656
theorem Src.on{l:List Tk}{v:Value}{w w':World}(h:Src l v w)(hb:Below w.heap.size w w'):Src l v w':=⟨(h.lies.below hb).more hb.size,h.len,h.fair⟩
abbrev ZZ:Array Value:=#[.int .i64 0,.int .i64 0,.int .i64 0,.string ⟨#[]⟩,.slice none 0 0]
def qn9(r:Res)(w:World)(e:Ending)(w':World):Prop:=
 match r with
 |.node n j=>∃s,e=.returned (.tuple #[.agg #[.int .i64 n.kind,.int .i64 n.at_,.int .i64 n.num,.string ⟨n.name.toArray⟩,s],.int .i64 j,.bool true])∧nt.ql (fun b=>w.heap.size≤b) w' n.kids s∧Hd n∧Below w.heap.size w w'
 |.no j=>e=.returned (.tuple #[.agg ZZ,.int .i64 j,.bool false])∧Below w.heap.size w w'
 |.list _ _=>False
def qoF(r:Res)(w:World)(e:Ending)(w':World):Prop:=
 match r with
 |.list ns j=>∃s,e=.returned (.tuple #[s,.int .i64 j,.bool true])∧nt.qdy w.heap.size w' ns s∧(ns=[]→s=.slice none 0 0)∧Below w.heap.size w w'
 |.no j=>e=.returned (.tuple #[.slice none 0 0,.int .i64 j,.bool false])∧Below w.heap.size w w'
 |.node _ _=>False
theorem qaK{fn:Func}{p q s:Nat}(hr:fn.results=#[ResultVar.cell p qi,ResultVar.tmp q,ResultVar.tmp s]){tm:Array Value}{w2:World}{R:Nat}{a b c d e x y:Value}(h4:tm.getD p undef=.pointer (some ⟨R,0,none⟩))(h5:tm.getD q undef=x)(h6:tm.getD s undef=y)(hb:Box w2 R qi #[a,b,c,d,e]):
   (results fn tm).run Tryz.prog w2=.ok (.tuple #[.agg #[a,b,c,d,e],x,y]) w2:=by
 have x0:=hb.cell 0;have x1:=hb.cell 1;have x2:=hb.cell 2;have x3:=hb.cell 3;have x4:=hb.cell 4;simp only[qg]at x0 x1 x2 x3 x4;have h4':tm[p]?.getD undef=.pointer (some ⟨R,0,none⟩):=by simpa using h4
 have h5':tm[q]?.getD undef=x:=by simpa using h5
 have h6':tm[s]?.getD undef=y:=by simpa using h6
 simp[results,hr,go_sem,h4',h5',h6',x0,x1,x2,x3,x4]
theorem qm{B R:Nat}{w0 w:World}(h:Below B w0 w)(hR:B≤R)(a b c d e:Value):Below B w0 (five w R a b c d e):=((((h.setCell hR a).setCell hR b).setCell hR c).setCell hR d).setCell hR e
theorem qoo{w w2:World}{R:Nat}{j:Int}{x y z q v:Value}(hR:R=w.heap.size)(hbx:Box w2 R qi #[x,y,z,q,v])(hb:Below w.heap.size w w2):
   Box (five w2 R (.int .i64 0) (.int .i64 0) (.int .i64 0) (.string ⟨#[]⟩) (.slice none 0 0)) R qi ZZ∧qn9 (.no j) w (.returned (.tuple #[.agg ZZ,.int .i64 j,.bool false])) (five w2 R (.int .i64 0) (.int .i64 0) (.int .i64 0) (.string ⟨#[]⟩) (.slice none 0 0)):=
 ⟨qj hbx _ _ _ _ _,rfl,qm hb (by omega) _ _ _ _ _⟩
end Go.Proofs.YtdndfifkfjoffaaGreatDoor.pm
namespace Go.Proofs.YtdndfifkfjoffaaGreatDoor.nt
open Go.RowKit wd lx
def qd5(s:List UInt8):Bool:=
 match s with
 |[]=>false
 |c::r=>decide ((c::r).length≤32)&&!qa1 c&&(c::r).all qaP&&!isW (c::r)
theorem qkW(r:List UInt8):r.drop (r.takeWhile qaX).length=qaN r:=by
 have h:=qcx r
 conv=>lhs;arg 2;rw[h]
 exact List.drop_left
theorem qiY{s:List UInt8}{e:Nat}{t:Tok}{ts:List Tok}(h:qjP s e (t::ts)):t.text.length+e≤s.length:=by
 unfold qjP at h;obtain⟨h1,h2,_⟩:=h;omega
theorem qcZ{s:List UInt8}(h:∀p t u,qfP s=(0,p,[t,u])→¬(t.kind=1∧t.text=s)):named s=false:=by
 obtain⟨⟨er,p,ts⟩,hr⟩:∃r,r=qfP s:=⟨_,rfl⟩;by_cases h0:er=0
 · subst h0;by_cases h2:ts.length=2
   · match ts,h2 with
     |[t,u],_=>
       rw[qf9 hr.symm];have:=h p t u hr.symm;simpa using this
   · exact qcl hr.symm (Or.inr h2)
 · exact qcl hr.symm (Or.inl h0)
theorem qeF{s:List UInt8}{e:Nat}(hl:s.length≤16384)(h:qaA s 0=qaA (s.drop e) e)(he:e≤s.length)(h0:0<e):named s=false:=by
 refine qcZ fun p t u hlx hb=>?_;rw[qb3 hl,h]at hlx;have:=qiY (qhV s _ e _ p qe he hlx).1;rw[hb.2]at this;omega
theorem qcc{α:Type}{p:α→Bool}:∀{l:List α},l.all p=true→l.takeWhile p=l
 |[],_=>rfl
 |a::l,h=>by
   rw[List.all_cons,Bool.and_eq_true]at h;rw[List.takeWhile_cons,h.1,if_pos rfl,qcc h.2]
theorem qc8{α:Type}{p:α→Bool}:∀{l:List α},l.takeWhile p=l→l.all p=true
 |[],_=>rfl
 |a::l,h=>by
   rw[List.takeWhile_cons]at h;cases hp:p a
   · rw[hp]at h;simp at h
   · rw[hp,if_pos rfl]at h;injection h with _ h
     rw[List.all_cons,hp,qc8 h];rfl
theorem ql8(s:List UInt8):named s=qd5 s:=by
 by_cases hl:s.length≤16384
 · cases s with
   |nil=>
     have:qfP []=(0,0,[⟨0,0,0,[]⟩]):=by rw[qb3 (by simp),qbq]
     rw[qcl this (Or.inr (by simp))]
     rfl
   |cons c r=>
     by_cases h1:cls c=1
     · have hL:qaP c=true:=by unfold qaP isL;rw[h1];rfl
       have hD:qa1 c=false:=by unfold qa1;rw[h1];rfl
       have ho:qR (c::r)=(if 32<((c::r).takeWhile qaP).length then 3 else 0,if isW ((c::r).takeWhile qaP)=true then 3 else 1,0,(c::r).takeWhile qaP):=by
         unfold qR;simp only[if_pos h1]
       have h3:cls c≠3:=by rw[h1];decide
       have h4:cls c≠4:=by rw[h1];decide
       by_cases h5:32<((c::r).takeWhile qaP).length
       · have hb:(qR (c::r)).1≠0:=by rw[ho,if_pos h5];simp
         have hx:=qdl h3 h4 r 0 hb
         have hN:named (c::r)=false:=by
           refine qcl (e:=(qR (c::r)).1) (p:=0) (ts:=[]) ?_ (Or.inl hb);rw[qb3 hl,hx]
         rw[hN];unfold qd5;simp only;by_cases ha:(c::r).all qaP=true
         · rw[qcc ha]at h5;rw[decide_eq_false (by omega)];rfl
         · rw[Bool.not_eq_true]at ha;rw[ha];simp
       · have hb:(qR (c::r)).1=0:=by rw[ho,if_neg h5]
         have hx:=qd3 h3 h4 r 0 hb;by_cases ha:(c::r).all qaP=true
         · have ht:=qcc ha;rw[ht]at ho h5;rw[ho]at hx;simp only[List.length_cons,Nat.add_sub_cancel]at hx;rw[List.drop_length,qbq]at hx
           have hx2:qfP (c::r)=(0,0,[⟨if isW (c::r)=true then 3 else 1,0,0,c::r⟩,⟨0,0+(r.length+1),0,[]⟩]):=by
             rw[qb3 hl,hx];rfl
           rw[qf9 hx2];unfold qd5;simp only;rw[ha,hD,decide_eq_true (show(c::r).length≤32 by omega)];cases isW (c::r)<;>simp
         · have hN:named (c::r)=false:=by
             refine qcZ fun p t u hlx hq=>?_;rw[qb3 hl,hx]at hlx;unfold qcg at hlx;split at hlx
             · simp only[Prod.mk.injEq,List.cons.injEq]at hlx;obtain⟨_,_,h7,_⟩:=hlx;have h8:=hq.2;rw[←h7]at h8;simp only[ho]at h8;exact ha (qc8 h8)
             · rename_i hne
               rw[hlx]at hne;exact hne rfl
           rw[hN];rw[Bool.not_eq_true]at ha;unfold qd5;simp only;rw[ha];simp
     · have hC:qd5 (c::r)=false:=by
         unfold qd5;simp only;by_cases h2:cls c=2
         · have hD:qa1 c=true:=by unfold qa1;rw[h2];rfl
           rw[hD];simp
         · have hL:qaP c=false:=by unfold qaP isL qa1;rw[decide_eq_false h1,decide_eq_false h2];rfl
           rw[List.all_cons,hL];simp
       rw[hC];by_cases h3:cls c=3
       · exact qeF (e:=1) hl (by rw[qbO h3];rfl) (by simp) (by omega)
       · by_cases h4:cls c=4
         · have hle:=(List.takeWhile_sublist qaX (l:=r)).length_le;refine qeF (e:=1+(r.takeWhile qaX).length) hl ?_ (by rw[List.length_cons];omega) (by omega);rw[qdn h4,show 1+(r.takeWhile qaX).length=(r.takeWhile qaX).length+1 by omega,List.drop_succ_cons,qkW]
         · refine qcZ fun p t u hlx hq=>?_;by_cases hb:(qR (c::r)).1=0
           · rw[qb3 hl,qd3 h3 h4 r 0 hb]at hlx;unfold qcg at hlx;split at hlx
             · simp only[Prod.mk.injEq,List.cons.injEq]at hlx;obtain⟨_,_,h7,_⟩:=hlx;have h8:=hq.1;rw[←h7]at h8;simp only at h8;unfold qR at h8;simp only[if_neg h1]at h8;split at h8
               · simp at h8
               · split at h8<;>simp at h8
             · rename_i hne
               rw[hlx]at hne;exact hne rfl
           · rw[qb3 hl,qdl h3 h4 r 0 hb]at hlx;simp only[Prod.mk.injEq]at hlx;exact hb hlx.1
 · have h1:named s=false:=qcl (ql3 (by omega)) (Or.inl (by decide));rw[h1];unfold qd5
   cases s with
   |nil=>rfl
   |cons c r=>
     simp only;rw[decide_eq_false (by omega)];rfl
end Go.Proofs.YtdndfifkfjoffaaGreatDoor.nt
namespace Go.Proofs.YtdndfifkfjoffaaGreatDoor.wd
open Go.RowKit mem vt
def qdr:List (List UInt8):=[]::qz++qa9
def qdB(w:World)(g:Nat)(l:List (List UInt8)):Prop:=∃t fr,w.heap[g]?=some (.cells (qbz l).toArray t fr)
theorem qdB.below{w w':World}{g:Nat}{l:List (List UInt8)}(h:qdB w g l)(hb:Below w.heap.size w w'):qdB w' g l:=by
 obtain⟨t,fr,hg⟩:=h;exact⟨t,fr,by rw[hb.block g (Array.getElem?_eq_some_iff.1 hg).1];exact hg⟩
theorem qdB.cell{w:World}{g:Nat}{l:List (List UInt8)}(h:qdB w g l)(k:Nat)(hk:k<l.length):w.cell? ⟨g,k,none⟩=some (.string ⟨l[k].toArray⟩):=by
 obtain⟨t,fr,hg⟩:=h;rw[cell_of_row w g k _ t fr hg];simpa using qds l k hk
theorem qdh(ty:TypeId)(n:Nat)(l:List (List UInt8))(k:Nat)(hu:Tryz.prog.underlying ty=some (.array n 9))(hn:l.length=n)(hk:k<l.length)(w:World):
   (Instr.index ty (.agg (qbz l).toArray) (.int .i64 k)).run Tryz.prog w=.ok (.string ⟨l[k].toArray⟩) w:=by
 have h:(qbz l).toArray[k]?=some (.string ⟨l[k].toArray⟩):=by simpa using qds l k hk
 have hlt:(0:Int)≤(k:Int)∧(k:Int)<(n:Int):=by omega
 have hp:Tryz.prog.plainKey 9=true:=by kernel_rfl
 obtain⟨i0,hi,hz0,hz1,hz2⟩:=info_parts qjB;have hs:Tryz.prog.cellsOf 9=1:=by kernel_rfl
 have hkn:k<n:=by omega
 simp[Instr.index,run_underlying hu,asIntOf,hkn,run_sizeOf w hi,hs,qds l k hk,go_sem]
theorem qlg{w:World}{g:Nat}(h:qdB w g qaf):∃ws:List Value,(w.rangeAt g 0 ws∧(Tryz.prog.info? 147).map (·.size)=some ws.length)∧
   ∀(k:Nat) (hk:k<qaf.length) (w':World),(Instr.index 147 (.agg ws.toArray) (.int .i64 k)).run Tryz.prog w'=.ok (.string ⟨qaf[k].toArray⟩) w':=by
 refine⟨qbz qaf,⟨?_,?_⟩,fun k hk w'=>qdh 147 20 qaf k Tryz.underlying147 rfl hk w'⟩
 · intro j v hv;obtain⟨t,fr,hg⟩:=h;rw[Nat.zero_add,cell_of_row w g j _ t fr hg];simpa using hv
 · rw[qik];kernel_rfl
def LD(w:World):Prop:=qdB w 1 qaf∧qdB w 0 qdr
theorem LD.on{w w':World}(h:LD w)(hb:Below w.heap.size w w'):LD w':=⟨h.1.below hb,h.2.below hb⟩
def qgl(s:List UInt8)(W:World)(i:Value)(wr:World):Prop:=∃k:Nat,i=.int .i64 k∧k≤20∧Hid ((qaf.take k).contains s=false)∧wr=W
theorem qgA(s:List UInt8)(w:World)(hs:s.length≤1048576)(hL:LD w):Calls Tryz.prog 139 #[.string ⟨s.toArray⟩] w fun e w'=>e=.returned (.bool (isW s))∧Below w.heap.size w w':=by
 clear hs;have HB:=qb (Below.refl w.heap.size w);obtain⟨ws,hl,HX0⟩:=qlg hL.1;have HL:=qb hl;have HX:=qb HX0;clear HX0 hL hl;go_enter Tryz.func139,Tryz.ntmps139
 go_wp2_with (refine wpList_load_mid rfl _ _ rfl 1 0 rfl ws _ HL.out.1 Tryz.underlying147 rfl HL.out.2 ?_)
 go_loopw [6] (fun i wr=>qgl s w i wr) (fun i _=>20-(intOf i).toNat)
 case atStart=>unfold qgl;exact⟨0,rfl,by omega,qb rfl,rfl⟩
 case round=>
   unfold qgl at hrel;obtain⟨k,rfl,hk,HC,rfl⟩:=hrel;by_cases hlt:k<20
   · have hlt':(k:Int)<20:=by omega
     have hkl:k<qaf.length:=hlt;have hx:=HX.out k hkl wr;have HCN:=qb (fun h1=>qca qaf s k hkl HC.out h1);have HCY:=qb (fun h1=>qeE qaf s k hkl h1);obtain⟨m,hm⟩:=qc (qaf[k]);rw[←hm]at hx HCN HCY;clear hm;go_wp2_with fail
     · go_ret;exact⟨by rw[show isW s=true from HCY.out (beq_iff_eq.1 (by assumption))];rfl,HB.out⟩
     · go_roundw
       case rel=>unfold qgl;exact⟨k+1,by go_num,by omega,qb (HCN.out (beq_eq_false_iff_ne.1 (by assumption))),rfl⟩
       case measure=>simp[intOf];omega
   · obtain rfl:k=20:=by omega
     go_wp2_with fail;go_ret;exact⟨by rw[show isW s=false from HC.out];rfl,HB.out⟩
theorem qbC(k:Int)(w:World)(hk:I64 k)(hL:LD w):Calls Tryz.prog 164 #[.int .i64 k] w fun e w'=>e=.returned (.int .i64 (qau k))∧Below w.heap.size w w':=by
 clear hL;have HB:=qb (Below.refl w.heap.size w);obtain⟨K,hK⟩:=qc (qau k);have HK:=qb hK;rw[←hK];clear hK;go_enter Tryz.func164,Tryz.ntmps164
 go_wp2_with fail;all_goals go_ret
 all_goals refine⟨congrArg (fun x=>Ending.returned (Value.int IntKind.i64 x)) ?_,HB.out⟩
 all_goals have hk:=HK.out
 all_goals unfold qau at hk
 all_goals try simp only[beq_iff_eq,beq_eq_false_iff_ne]at *
 all_goals (repeat' split at hk)<;>omega
theorem qjl(n:Nat)(h:n<14):∃hk:n+1<qdr.length,qdr[n+1]=qah ((n:Int)+1):=by
 have hk:n+1<qdr.length:=by show n+1<25;omega
 refine⟨hk,?_⟩;obtain⟨h1,e⟩:=qeg n h;rw[←e]
 have:qdr[n+1]?=qz[n]?:=by
   show([]::qz++qa9)[n+1]?=_
   rw[List.cons_append,List.getElem?_cons_succ,List.getElem?_append_left h1]
 rw[List.getElem?_eq_getElem hk,List.getElem?_eq_getElem h1]at this;exact Option.some.inj this
theorem qnK:∀n:Fin 14,qbk (qz.getD n.val [])=(n.val:Int)+1∧isS (qz.getD n.val [])=true:=by decide +kernel
theorem qmA{s:List UInt8}(n:Nat)(h:n<14)(e:qah ((n:Int)+1)=s):qbk s=(n:Int)+1∧isS s=true:=by
 obtain⟨hk,e2⟩:=qeg n h;have h1:=qnK ⟨n,h⟩;rw[List.getD_eq_getElem?_getD,List.getElem?_eq_getElem hk,Option.getD_some,e2,e]at h1;exact h1
theorem qk3{s:List UInt8}(n:Nat)(h:n<14)(h0:(qz.take n).contains s=false)(e:qah ((n:Int)+1)≠s):(qz.take (n+1)).contains s=false:=by
 obtain⟨hk,e2⟩:=qeg n h;exact qca qz s n hk h0 (by rw[e2];exact e)
theorem qk4{s:List UInt8}(h:(qz.take 14).contains s=false):qbk s=0∧isS s=false:=by
 refine qfG (fun hm=>?_);have:qz.contains s=true:=List.contains_iff_mem.2 hm;rw[show qz.take 14=qz from rfl,this]at h;cases h
def qeR(s:List UInt8)(W:World)(i:Value)(wr:World):Prop:=∃k:Nat,i=.int .i64 ((k:Int)+1)∧k≤14∧Hid ((qz.take k).contains s=false)∧wr=W
theorem qcp(s:List UInt8)(w:World)(hs:s.length≤1048576)(hL:LD w):Calls Tryz.prog 173 #[.string ⟨s.toArray⟩] w fun e w'=>e=.returned (.tuple #[.int .i64 (qbk s),.bool (isS s)])∧Below w.heap.size w w':=by
 clear hs;have HB:=qb (Below.refl w.heap.size w)
 have HT:Hid (∀n:Nat,n<14→w.cell? ⟨0,n+1,none⟩=some (.string ⟨(qah ((n:Int)+1)).toArray⟩)):=qb (fun n hn=>by
   obtain⟨hlt,e⟩:=qjl n hn;rw[qdB.cell hL.2 (n+1) hlt,e])
 clear hL;go_enter Tryz.func173,Tryz.ntmps173
 go_wp2_with fail
 go_loopw [4] (fun i wr=>qeR s w i wr) (fun i _=>15-(intOf i).toNat)
 case atStart=>unfold qeR;exact⟨0,rfl,by omega,qb rfl,rfl⟩
 case round=>
   unfold qeR at hrel;obtain⟨k,rfl,hk,HC,rfl⟩:=hrel;by_cases hlt:k<14
   · have hlt':(k:Int)+1≤14:=by omega
     have c0:=HT.out k hlt;have HCN:=qb (fun h1=>qk3 k hlt HC.out h1);have HCY:=qb (fun h1=>qmA (s:=s) k hlt h1);obtain⟨m,hm⟩:=qc (qah ((k:Int)+1));rw[←hm]at c0 HCN HCY;clear hm HC;go_wp2_with fail
     · have h:=HCY.out (beq_iff_eq.1 (by assumption))
       go_ret2
       exact⟨by rw[h.1,h.2];rfl,HB.out⟩
     · go_roundw
       case rel=>unfold qeR;exact⟨k+1,by go_num,by omega,qb (HCN.out (beq_eq_false_iff_ne.1 (by assumption))),rfl⟩
       case measure=>simp[intOf];omega
   · obtain rfl:k=14:=by omega
     have h:=qb (qk4 HC.out);clear HC;go_wp2_with fail
     go_ret2
     exact⟨by rw[h.out.1,h.out.2];rfl,HB.out⟩
end Go.Proofs.YtdndfifkfjoffaaGreatDoor.wd
namespace Go.Proofs
open Go.Shelf
def Tryz.lays160_ren:Go.Shelf.Ren:=⟨fun|160=>171|232=>181|231=>180|227=>182|234=>184|233=>183|236=>186|235=>185|228=>192|271=>195|151=>194|197=>193|120=>205|152=>204|260=>203|137=>209|119=>210|224=>201|225=>200|217=>199|266=>207|n=>n,fun|9=>9|4=>4|3=>3|5=>5|117=>167|116=>166|0=>0|124=>170|21=>21|105=>176|46=>134|119=>190|139=>193|138=>192|n=>n,fun|3=>5|4=>6|n=>n⟩
theorem Tryz.lays160:Go.Proofs.Lays.n160 Tryz.prog Tryz.lays160_ren:={
 mixed:=by kernel_rfl
 f119:=Tryz.func210.trans (congrArg some (by kernel_rfl))
 f120:=Tryz.func205.trans (congrArg some (by kernel_rfl))
 f137:=Tryz.func209.trans (congrArg some (by kernel_rfl))
 f151:=Tryz.func194.trans (congrArg some (by kernel_rfl))
 f152:=Tryz.func204.trans (congrArg some (by kernel_rfl))
 f160:=Tryz.func171.trans (congrArg some (by kernel_rfl))
 f197:=Tryz.func193.trans (congrArg some (by kernel_rfl))
 f217:=Tryz.func199.trans (congrArg some (by kernel_rfl))
 f224:=Tryz.func201.trans (congrArg some (by kernel_rfl))
 f225:=Tryz.func200.trans (congrArg some (by kernel_rfl))
 f227:=Tryz.func182.trans (congrArg some (by kernel_rfl))
 f228:=Tryz.func192.trans (congrArg some (by kernel_rfl))
 f231:=Tryz.func180.trans (congrArg some (by kernel_rfl))
 f232:=Tryz.func181.trans (congrArg some (by kernel_rfl))
 f233:=Tryz.func183.trans (congrArg some (by kernel_rfl))
 f234:=Tryz.func184.trans (congrArg some (by kernel_rfl))
 f235:=Tryz.func185.trans (congrArg some (by kernel_rfl))
 f236:=Tryz.func186.trans (congrArg some (by kernel_rfl))
 f260:=Tryz.func203.trans (congrArg some (by kernel_rfl))
 f266:=Tryz.func207.trans (congrArg some (by kernel_rfl))
 f271:=Tryz.func195.trans (congrArg some (by kernel_rfl))
 t0:=Tryz.underlying0
 a0:=Tryz.isAgg0
 z0:=Tryz.sizeOf0
 v0:=Tryz.zeroValue0
 t3:=Tryz.underlying3
 a3:=Tryz.isAgg3
 z3:=Tryz.sizeOf3
 v3:=Tryz.zeroValue3
 t4:=Tryz.underlying4
 a4:=Tryz.isAgg4
 z4:=Tryz.sizeOf4
 v4:=Tryz.zeroValue4
 t5:=Tryz.underlying5
 a5:=Tryz.isAgg5
 z5:=Tryz.sizeOf5
 v5:=Tryz.zeroValue5
 t9:=Tryz.underlying9
 a9:=Tryz.isAgg9
 z9:=Tryz.sizeOf9
 v9:=Tryz.zeroValue9
 t21:=Tryz.underlying21
 a21:=Tryz.isAgg21
 z21:=Tryz.sizeOf21
 v21:=Tryz.zeroValue21
 t46:=Tryz.underlying134
 a46:=Tryz.isAgg134
 z46:=Tryz.sizeOf134
 v46:=Tryz.zeroValue134
 t105:=Tryz.underlying176
 a105:=Tryz.isAgg176
 z105:=Tryz.sizeOf176
 v105:=Tryz.zeroValue176
 t116:=Tryz.underlying166
 a116:=Tryz.isAgg166
 z116:=Tryz.sizeOf166
 t117:=Tryz.underlying167
 a117:=Tryz.isAgg167
 z117:=Tryz.sizeOf167
 v117:=Tryz.zeroValue167
 t119:=Tryz.underlying190
 a119:=Tryz.isAgg190
 z119:=Tryz.sizeOf190
 t124:=Tryz.underlying170
 a124:=Tryz.isAgg170
 z124:=Tryz.sizeOf170
 v124:=Tryz.zeroValue170
 t138:=Tryz.underlying192
 a138:=Tryz.isAgg192
 z138:=Tryz.sizeOf192
 v138:=Tryz.zeroValue192
 t139:=Tryz.underlying193
 a139:=Tryz.isAgg193
 z139:=Tryz.sizeOf193
 v139:=Tryz.zeroValue193
 g3:=by kernel_rfl
 g4:=by kernel_rfl}
def Tryz.lays144_ren:Go.Shelf.Ren:=⟨fun|144=>170|143=>179|219=>191|217=>199|225=>200|224=>201|267=>202|266=>207|314=>208|n=>n,fun|9=>9|4=>4|3=>3|5=>5|46=>134|146=>188|51=>187|n=>n,fun|1=>4|n=>n⟩
theorem Tryz.lays144:Go.Proofs.Lays.n144 Tryz.prog Tryz.lays144_ren:={
 mixed:=by kernel_rfl
 f143:=Tryz.func179.trans (congrArg some (by kernel_rfl))
 f144:=Tryz.func170.trans (congrArg some (by kernel_rfl))
 f217:=Tryz.func199.trans (congrArg some (by kernel_rfl))
 f219:=Tryz.func191.trans (congrArg some (by kernel_rfl))
 f224:=Tryz.func201.trans (congrArg some (by kernel_rfl))
 f225:=Tryz.func200.trans (congrArg some (by kernel_rfl))
 f266:=Tryz.func207.trans (congrArg some (by kernel_rfl))
 f267:=Tryz.func202.trans (congrArg some (by kernel_rfl))
 f314:=Tryz.func208.trans (congrArg some (by kernel_rfl))
 t3:=Tryz.underlying3
 a3:=Tryz.isAgg3
 z3:=Tryz.sizeOf3
 v3:=Tryz.zeroValue3
 t4:=Tryz.underlying4
 a4:=Tryz.isAgg4
 z4:=Tryz.sizeOf4
 v4:=Tryz.zeroValue4
 t5:=Tryz.underlying5
 a5:=Tryz.isAgg5
 z5:=Tryz.sizeOf5
 v5:=Tryz.zeroValue5
 t9:=Tryz.underlying9
 a9:=Tryz.isAgg9
 z9:=Tryz.sizeOf9
 v9:=Tryz.zeroValue9
 t46:=Tryz.underlying134
 a46:=Tryz.isAgg134
 z46:=Tryz.sizeOf134
 v46:=Tryz.zeroValue134
 t51:=Tryz.underlying187
 a51:=Tryz.isAgg187
 z51:=Tryz.sizeOf187
 v51:=Tryz.zeroValue187
 t146:=Tryz.underlying188
 a146:=Tryz.isAgg188
 z146:=Tryz.sizeOf188
 v146:=Tryz.zeroValue188
 g1:=by kernel_rfl}
open Go.RowKit Go.Lib in
theorem Tryz.strings_Contains_one(s:ByteArray)(c:UInt8)(w:World):
   Calls Tryz.prog 170 #[.string s,.string ⟨#[c]⟩] w fun e w'=>e=.returned (.bool (decide (0≤Lib.indexByte s.data.toList c)))∧w'=w:=Any.strings_Contains_one Tryz.lays144 s c w
open Go.RowKit Go.Lib in
theorem Tryz.strings_Trim_laid(s cutset:ByteArray)(w:World)(hs:s.size≤9223372036854775807)(hcs:cutset.size<4294967281)(hascii:∀(j:Nat) b,cutset.data.toList[j]?=some b→b.toNat<128):
   Calls Tryz.prog 171 #[.string s,.string cutset] w fun e w'=>e=.returned (.string ⟨(Lib.trimS s.data.toList cutset.data.toList).toArray⟩)∧Below w.heap.size w w':=Any.strings_Trim_laid Tryz.lays160 (by kernel_rfl) s cutset w hs hcs hascii
end Go.Proofs
namespace Go.Proofs.YtdndfifkfjoffaaGreatDoor.vt
open Go.RowKit mem
theorem qZ{w w':World}{base size n:Nat}{e:TypeId}{v:Value}{xs:List Value}(h:w.ownsRow base e size v n xs)(hk:∀k,v.ownBlock=some k→w'.heap[k]?=w.heap[k]?):w'.ownsRow base e size v n xs:=by
 refine⟨h.1,?_⟩;rcases h.2 with h'|⟨g,cap,cur,hv,hg,hh,r⟩
 · exact .inl h'
 · subst hv;exact .inr ⟨g,cap,cur,rfl,hg,(hk g rfl).trans hh,r⟩
theorem qee(w:World)(b i k:Nat)(u:Value)(h:k≠b):(w.setCell ⟨b,i,none⟩ u).heap[k]?=w.heap[k]?:=Below.heap_setCell w ⟨b,i,none⟩ u k h
theorem qc6(w:World){b c:Nat}(h:b≠c)(i j:Nat)(u v:Value):(w.setCell ⟨b,i,none⟩ u).setCell ⟨c,j,none⟩ v=(w.setCell ⟨c,j,none⟩ v).setCell ⟨b,i,none⟩ u:=by
 unfold World.setCell;simp only
 congr 1
 apply Array.ext_getElem?;intro k;simp only[Array.getElem?_modify];by_cases h1:b=k
 · subst h1;simp[Ne.symm h]
 · by_cases h2:c=k
   · subst h2;simp[h1]
   · simp[h1,h2]
theorem qW{w w1:World}{row:Option Nat}{g i:Nat}(h:w.grownBy w1 row)(hg:row=some g∨w.heap.size≤g)(u:Value):w.grownBy (w1.setCell ⟨g,i,none⟩ u) row:=
 ⟨h.os,h.tape,h.output,by rw[World.size_setCell];exact h.size,fun k hk hr=>by
   rw[Below.heap_setCell]
   · exact h.block k hk hr
   · intro e
     dsimp only at e
     subst e;rcases hg with hg|hg
     · exact hr hg.symm
     · omega⟩
end Go.Proofs.YtdndfifkfjoffaaGreatDoor.vt

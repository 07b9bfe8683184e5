/- A variable's block as a whole: what it holds, and what a store leaves of it. Of whatever program. (and what it stands on) -/
import Derived.Test.YtdndfifkfjoffaaGreatDoorZab
import Derived.Test.YtdndfifkfjoffaaGreatDoorZaa
import Derived.Laws.OwnMore
import Derived.Laws.AppendOwnNone
import Derived.LoopTactic
import Derived.Outline
import Derived.StillTailTactics
import Derived.WalkSpells
import Derived.BigQuiet
import Derived.Lib.Strings
set_option maxRecDepth 100000
set_option maxHeartbeats 4000000
namespace Go.Proofs.YtdndfifkfjoffaaGreatDoor.vt
open Go.RowKit mem
def I64(n:Int):Prop:=-9223372036854775808≤n∧n≤9223372036854775807
mutual
def VT.Has(G:Nat→Prop)(w:World):VT→Value→Prop
 |.mk _ _ l,s=>∃A cap,s=.slice A l.length cap∧(l.length≤9223372036854775807∧(A=none→cap=0))∧(0<l.length→∃b off,A=some ⟨b,off,none⟩∧G b∧Row G w b l off)
def Row(G:Nat→Prop)(w:World)(b:Nat):List VT→Nat→Prop
 |[],_=>True
 |v::r,off=>(I64 v.kind∧I64 v.num∧w.cell? ⟨b,off,none⟩=some (.int .i64 v.kind)∧w.cell? ⟨b,off+1,none⟩=some (.int .i64 v.num)∧∃s,w.cell? ⟨b,off+2,none⟩=some s∧v.Has G w s)∧Row G w b r (off+3)
end
def ql(G:Nat→Prop)(w:World)(l:List VT)(s:Value):Prop:=
 ∃A cap,s=.slice A l.length cap∧(l.length≤9223372036854775807∧(A=none→cap=0))∧(0<l.length→∃b off,A=some ⟨b,off,none⟩∧G b∧Row G w b l off)
theorem qfh{G:Nat→Prop}{w:World}{t:VT}{s:Value}:t.Has G w s↔ql G w t.kids s:=by cases t;rw[VT.Has];rfl
def qcd(G:Nat→Prop)(w:World)(b off:Nat)(v:VT):Prop:=
 I64 v.kind∧I64 v.num∧w.cell? ⟨b,off,none⟩=some (.int .i64 v.kind)∧w.cell? ⟨b,off+1,none⟩=some (.int .i64 v.num)∧∃s,w.cell? ⟨b,off+2,none⟩=some s∧ql G w v.kids s
theorem qbt{G:Nat→Prop}{w:World}{b off:Nat}{v:VT}{r:List VT}:Row G w b (v::r) off↔qcd G w b off v∧Row G w b r (off+3):=by
 rw[Row];unfold qcd;simp only[qfh]
theorem qc0{G:Nat→Prop}{w:World}{b:Nat}:∀{l:List VT} {off:Nat},Row G w b l off→∀(k:Nat) (hk:k<l.length),qcd G w b (off+k*3) l[k]
 |v::r,off,h,0,_=>by rw[qbt]at h;simpa using h.1
 |v::r,off,h,k+1,hk=>by
   rw[qbt]at h;have:=qc0 h.2 k (by simpa using hk);rw[show off+3+k*3=off+(k+1)*3 by omega]at this;simpa using this
theorem qc1{G:Nat→Prop}{w:World}{b:Nat}:∀{l:List VT} {off:Nat},(∀(k:Nat) (hk:k<l.length),qcd G w b (off+k*3) l[k])→Row G w b l off
 |[],_,_=>by rw[Row];trivial
 |v::r,off,h=>by
   rw[qbt];refine⟨h 0 (by simp),qc1 fun k hk=>?_⟩;have:=h (k+1) (by simpa using hk);rw[show off+(k+1)*3=off+3+k*3 by omega]at this;simpa using this
theorem ql.at_{G:Nat→Prop}{w:World}{l:List VT}{s:Value}(h:ql G w l s)(k:Nat)(hk:k<l.length):
   ∃b off cap,s=.slice (some ⟨b,off,none⟩) l.length cap∧G b∧qcd G w b (off+k*3) l[k]:=by
 obtain⟨A,cap,hs,_,h⟩:=h;obtain⟨b,off,rfl,hb,h⟩:=h (by omega);exact⟨b,off,cap,hs,hb,qc0 h k hk⟩
theorem ql.form{G:Nat→Prop}{w:World}{l:List VT}{s:Value}(h:ql G w l s):∃A cap,s=.slice A l.length cap∧l.length≤9223372036854775807:=by
 obtain⟨A,cap,hs,hl,_⟩:=h;exact⟨A,cap,hs,hl.1⟩
theorem ql.nil_(G:Nat→Prop)(w:World):ql G w [] (.slice none 0 0):=⟨none,0,rfl,⟨by simp,fun _=>rfl⟩,fun h=>absurd h (by simp)⟩
theorem qdI{G G':Nat→Prop}{w w':World}(hc:∀b o v,G b→w.cell? ⟨b,o,none⟩=some v→G' b∧w'.cell? ⟨b,o,none⟩=some v):∀(t:VT) (s:Value),ql G w t.kids s→ql G' w' t.kids s:=by
 intro t
 induction t using VT.ind with
 |h k n l ih=>
   intro s h;obtain⟨A,cap,hs,hl,h⟩:=h;refine⟨A,cap,hs,hl,fun h0=>?_⟩;obtain⟨b,off,hA,hb,h⟩:=h h0
   have hcell:∀(k:Nat) (hk:k<l.length),G' b∧qcd G' w' b (off+k*3) l[k]:=by
     intro k hk;obtain⟨i1,i2,c1,c2,s',c3,h3⟩:=qc0 h k hk;exact⟨(hc _ _ _ hb c1).1,i1,i2,(hc _ _ _ hb c1).2,(hc _ _ _ hb c2).2,s',(hc _ _ _ hb c3).2,ih _ (List.getElem_mem hk) s' h3⟩
   exact⟨b,off,hA,(hcell 0 h0).1,qc1 fun k hk=>(hcell k hk).2⟩
theorem ql.carry{G G':Nat→Prop}{w w':World}{l:List VT}{s:Value}(h:ql G w l s)(hc:∀b o v,G b→w.cell? ⟨b,o,none⟩=some v→G' b∧w'.cell? ⟨b,o,none⟩=some v):ql G' w' l s:=
 qdI hc (.mk 0 0 l) s h
theorem ql.mono{G G':Nat→Prop}{w:World}{l:List VT}{s:Value}(h:ql G w l s)(hg:∀b,G b→G' b):ql G' w l s:=h.carry fun b _ _ hb hc=>⟨hg b hb,hc⟩
theorem ql.keep{G:Nat→Prop}{w w':World}{l:List VT}{s:Value}(h:ql G w l s)(hk:∀b o,G b→b<w.heap.size→w'.cell? ⟨b,o,none⟩=w.cell? ⟨b,o,none⟩):ql G w' l s:=
 h.carry fun b o _ hb hc=>⟨hb,(hk b o hb (World.block_lt_of_cell? _ _ hc)).trans hc⟩
theorem ql.below{G:Nat→Prop}{w w':World}{l:List VT}{s:Value}(h:ql G w l s)(hb:Below w.heap.size w w'):ql G w' l s:=
 h.keep fun b' o _ hlt=>hb.cell (p:=⟨b',o,none⟩) hlt
theorem ql.lt{G:Nat→Prop}{w:World}{l:List VT}{s:Value}(h:ql G w l s):ql (fun b=>G b∧b<w.heap.size) w l s:=
 h.carry fun _ _ _ hb hc=>⟨⟨hb,World.block_lt_of_cell? _ _ hc⟩,hc⟩
theorem ql.kid{G:Nat→Prop}{w wr:World}{l:List VT}{s:Value}(h:ql G w l s)(hb:Below w.heap.size w wr)(k:Nat)(hk:k<l.length):
   ∃b off cap s',s=.slice (some ⟨b,off,none⟩) l.length cap∧b<wr.heap.size∧I64 l[k].kind∧I64 l[k].num∧wr.cell? ⟨b,off+k*3,none⟩=some (.int .i64 l[k].kind)∧wr.cell? ⟨b,off+k*3+1,none⟩=some (.int .i64 l[k].num)∧wr.cell? ⟨b,off+k*3+2,none⟩=some s'∧ql G wr l[k].kids s':=by
 obtain⟨b,off,cap,hs,hG,i1,i2,c1,c2,s',c3,h3⟩:=(h.below hb).at_ k hk;exact⟨b,off,cap,s',hs,World.block_lt_of_cell? _ _ c1,i1,i2,c1,c2,c3,h3⟩
theorem qaI(b o i:Nat):(⟨b,o,none⟩:Addr).add i=⟨b,o+i,none⟩:=by unfold Addr.add;split<;>simp_all
end Go.Proofs.YtdndfifkfjoffaaGreatDoor.vt
namespace Go.Proofs.YtdndfifkfjoffaaGreatDoor.vt
open Go.RowKit mem
def qaM(G:Nat→Prop)(w:World):List VT→List Value→Prop
 |[],vs=>vs=[]
 |v::r,vs=>∃s rest,vs=.int .i64 v.kind::.int .i64 v.num::s::rest∧I64 v.kind∧I64 v.num∧ql G w v.kids s∧qaM G w r rest
theorem qaM.len{G:Nat→Prop}{w:World}:∀{l:List VT} {vs:List Value},qaM G w l vs→vs.length=l.length*3
 |[],vs,h=>by rw[qaM]at h;subst h;rfl
 |v::r,vs,h=>by
   rw[qaM]at h;obtain⟨s,rest,rfl,_,_,_,hr⟩:=h;have:=qaM.len hr;simp only[List.length_cons];omega
theorem qaM.one{G:Nat→Prop}{w:World}:∀{l:List VT} {vs:List Value},qaM G w l vs→∀u∈vs,u.oneCell'=true
 |[],vs,h=>by rw[qaM]at h;subst h;intro u hu;cases hu
 |v::r,vs,h=>by
   rw[qaM]at h;obtain⟨s,rest,rfl,_,_,hk,hr⟩:=h;obtain⟨A,cap,rfl,_⟩:=hk.form;have:=qaM.one hr;intro u hu;simp only[List.mem_cons]at hu;rcases hu with rfl|rfl|rfl|hu
   · rfl
   · rfl
   · rfl
   · exact this u hu
theorem qaM.append{G:Nat→Prop}{w:World}:∀{a b:List VT} {xs ys:List Value},qaM G w a xs→qaM G w b ys→qaM G w (a++b) (xs++ys)
 |[],b,xs,ys,h,h'=>by rw[qaM]at h;subst h;exact h'
 |v::r,b,xs,ys,h,h'=>by
   rw[qaM]at h;obtain⟨s,rest,rfl,i1,i2,hk,hr⟩:=h;rw[List.cons_append,qaM];exact⟨s,rest++ys,rfl,i1,i2,hk,qaM.append hr h'⟩
theorem qaM.carry{G G':Nat→Prop}{w w':World}(hc:∀b o v,G b→w.cell? ⟨b,o,none⟩=some v→G' b∧w'.cell? ⟨b,o,none⟩=some v):∀{l:List VT} {vs:List Value},qaM G w l vs→qaM G' w' l vs
 |[],vs,h=>h
 |v::r,vs,h=>by
   rw[qaM]at h ⊢;obtain⟨s,rest,rfl,i1,i2,hk,hr⟩:=h;exact⟨s,rest,rfl,i1,i2,hk.carry hc,qaM.carry hc hr⟩
theorem qaM.mono{G G':Nat→Prop}{w:World}{l:List VT}{vs:List Value}(h:qaM G w l vs)(hg:∀b,G b→G' b):qaM G' w l vs:=h.carry fun b _ _ hb hc=>⟨hg b hb,hc⟩
theorem qaM.keep{G:Nat→Prop}{w w':World}{l:List VT}{vs:List Value}(h:qaM G w l vs)(hk:∀b o,G b→b<w.heap.size→w'.cell? ⟨b,o,none⟩=w.cell? ⟨b,o,none⟩):qaM G w' l vs:=
 h.carry fun b o _ hb hc=>⟨hb,(hk b o hb (World.block_lt_of_cell? _ _ hc)).trans hc⟩
theorem qaM.below{G:Nat→Prop}{w w':World}{l:List VT}{vs:List Value}(h:qaM G w l vs)(hb:Below w.heap.size w w'):qaM G w' l vs:=
 h.keep fun b' o _ hlt=>hb.cell (p:=⟨b',o,none⟩) hlt
theorem qaM.lt{G:Nat→Prop}{w:World}{l:List VT}{vs:List Value}(h:qaM G w l vs):qaM (fun b=>G b∧b<w.heap.size) w l vs:=
 h.carry fun _ _ _ hb hc=>⟨⟨hb,World.block_lt_of_cell? _ _ hc⟩,hc⟩
theorem qhl{w w':World}(h:w.grownBy w' none):Below w.heap.size w w':=qd.grown h qe (fun k h=>by cases h)
theorem qaw(w:World)(b i c o:Nat)(u:Value)(h:c≠b):(w.setCell ⟨b,i,none⟩ u).cell? ⟨c,o,none⟩=w.cell? ⟨c,o,none⟩:=
 World.cell?_of_block (Below.heap_setCell w ⟨b,i,none⟩ u c h)
theorem qft{w:World}{base base':Nat}{e:TypeId}{size n:Nat}{v:Value}{xs:List Value}(h:w.ownsRow base e size v n xs)(hb:base'≤base):w.ownsRow base' e size v n xs:=by
 refine⟨h.1,?_⟩;rcases h.2 with h'|⟨g,cap,cur,hv,hg,r⟩
 · exact .inl h'
 · exact .inr ⟨g,cap,cur,hv,by omega,r⟩
theorem qt{w:World}{base:Nat}{e:TypeId}{size n:Nat}{v:Value}{xs:List Value}(h:w.ownsRow base e size v n xs):∃A c,v=.slice A n c:=by
 rcases h.2 with⟨h',hn⟩|⟨g,cap,cur,hv,_⟩
 · exact⟨none,0,by rw[h',hn]⟩
 · exact⟨_,cap,hv⟩
theorem qaM.set{G:Nat→Prop}{w:World}{l:List VT}{vs:List Value}(h:qaM G w l vs){b i:Nat}{u:Value}(hb:∀c,G c→c<w.heap.size→c≠b):qaM G (w.setCell ⟨b,i,none⟩ u) l vs:=
 h.keep fun c o hc hlt=>qaw w b i c o u (hb c hc hlt)
theorem ql.set{G:Nat→Prop}{w:World}{l:List VT}{s:Value}(h:ql G w l s){b i:Nat}{u:Value}(hb:∀c,G c→c<w.heap.size→c≠b):ql G (w.setCell ⟨b,i,none⟩ u) l s:=
 h.keep fun c o hc hlt=>qaw w b i c o u (hb c hc hlt)
end Go.Proofs.YtdndfifkfjoffaaGreatDoor.vt
namespace Go.Proofs.YtdndfifkfjoffaaGreatDoor.vt
open Go.RowKit mem
theorem qv{w w1:World}{base:Nat}{e:TypeId}{size n:Nat}{v:Value}{xs:List Value}(h:w.ownsRow base e size v n xs)(hb:Below w.heap.size w w1):w1.ownsRow base e size v n xs:=by
 refine⟨h.1,?_⟩;rcases h.2 with h'|⟨g,cap,cur,hv,hg,hh,r⟩
 · exact .inl h'
 · exact .inr ⟨g,cap,cur,hv,hg,(hb.block g (Array.getElem?_eq_some_iff.1 hh).1).trans hh,r⟩
end Go.Proofs.YtdndfifkfjoffaaGreatDoor.vt
namespace Go.Proofs.YtdndfifkfjoffaaGreatDoor.wd
open Go.RowKit mem vt
def qjs(w:World)(b:Nat)(l:List (List UInt8)):Prop:=w.heap[b]?=some (.cells (qbz l).toArray 9 (0,0))
theorem qjs.cell{w:World}{b:Nat}{l:List (List UInt8)}(h:qjs w b l)(k:Nat)(hk:k<l.length):w.cell? ⟨b,k,none⟩=some (.string ⟨l[k].toArray⟩):=by
 unfold World.cell?;rw[h];have:=qds l k hk;simpa using this
theorem qmr(w:World):Calls Tryz.prog 94 #[] w fun e w'=>e=.returned (.slice (some ⟨w.heap.size,0,none⟩) 20 20)∧w.alloc (.cells (qbz qaf).toArray 9)=w':=by
 go_enter Tryz.func94,Tryz.ntmps94
 go_wp2
 go_ret;exact⟨rfl,rfl⟩
def qjr(s:List UInt8)(W:World)(i:Value)(wr:World):Prop:=∃k:Nat,i=.int .i64 k∧k≤20∧Hid ((qaf.take k).contains s=false)∧wr=W
theorem qjH(s:List UInt8)(w:World):Calls Tryz.prog 59 #[.string ⟨s.toArray⟩] w fun e w'=>e=.returned (.bool (isW s))∧Below w.heap.size w w':=by
 have HB:=qb ((Below.refl w.heap.size w).alloc qe (.cells (qbz qaf).toArray 9));have HT:Hid (qjs (w.alloc (.cells (qbz qaf).toArray 9)) w.heap.size qaf):=qb (heap_alloc_new w _);have HA:=qb (qmr w);go_enter Tryz.func59,Tryz.ntmps59
 go_wp2_with fail;refine HA.out.mono ?_;rintro e w1 ⟨rfl,rfl⟩;obtain⟨W,hW⟩:=qc (w.alloc (.cells (qbz qaf).toArray 9));rw[←hW]at HB HT ⊢;clear hW HA;go_wp2_with fail
 go_loopw [4] (fun i wr=>qjr s W i wr) (fun i _=>20-(intOf i).toNat)
 case atStart=>unfold qjr;exact⟨0,rfl,by omega,qb rfl,rfl⟩
 case round=>
   unfold qjr at hrel;obtain⟨k,rfl,hk,HC,rfl⟩:=hrel;by_cases hlt:k<20
   · have hlt':(k:Int)<20:=by omega
     have hk0:(0:Int)≤(k:Int):=by omega
     have hkl:k<qaf.length:=hlt;have c0:=HT.out.cell k hkl;have HCN:=qb (fun h1=>qca qaf s k hkl HC.out h1);have HCY:=qb (fun h1=>qeE qaf s k hkl h1);obtain⟨m,hm⟩:=qc (qaf[k]);rw[←hm]at c0 HCN HCY;clear hm;go_wp2_with fail
     · go_ret;exact⟨by rw[show isW s=true from HCY.out (beq_iff_eq.1 (by assumption))];rfl,HB.out⟩
     · go_roundw
       case rel=>unfold qjr;exact⟨k+1,by go_num,by omega,qb (HCN.out (beq_eq_false_iff_ne.1 (by assumption))),rfl⟩
       case measure=>simp[intOf];omega
   · obtain rfl:k=20:=by omega
     go_wp2
     go_ret;exact⟨by rw[show isW s=false from HC.out];rfl,HB.out⟩
theorem qjg(k:Int)(w:World)(hk:I64 k):Calls Tryz.prog 95 #[.int .i64 k] w fun e w'=>e=.returned (.string ⟨(qah k).toArray⟩)∧Below w.heap.size w w':=by
 have HB:=qb ((Below.refl w.heap.size w).alloc qe (.cells (qbz qz).toArray 9));have HT:Hid (qjs (w.alloc (.cells (qbz qz).toArray 9)) w.heap.size qz):=qb (heap_alloc_new w _);unfold I64 at hk;by_cases h1:k<1
 · rw[show qah k=[] from if_pos (Or.inl h1)];go_enter Tryz.func95,Tryz.ntmps95
   go_wp2
   go_ret;exact⟨rfl,HB.out⟩
 by_cases h2:14<k
 · rw[show qah k=[] from if_pos (Or.inr h2)];go_enter Tryz.func95,Tryz.ntmps95
   go_wp2
   go_ret;exact⟨rfl,HB.out⟩
 obtain⟨n,rfl⟩:∃n:Nat,k=(n:Int)+1:=⟨(k-1).toNat,by omega⟩;have hn:n<qz.length:=by show n<14;omega
 have hn2:(n:Int)<14:=by omega
 have hn0:(0:Int)≤n:=by omega
 have hsp:qah ((n:Int)+1)=qz[n]:=by
   unfold qah;rw[if_neg (by omega),show((n:Int)+1-1).toNat=n by omega];rw[List.getD_eq_getElem?_getD,List.getElem?_eq_getElem hn];rfl
 have c0:=HT.out.cell n hn;rw[hsp];obtain⟨W,hW⟩:=qc (w.alloc (.cells (qbz qz).toArray 9));obtain⟨m,hm⟩:=qc (qz[n]);rw[←hm]at c0 ⊢;rw[←hW]at HB c0;have HW:=qb hW;clear hm hsp HT hW;go_enter Tryz.func95,Tryz.ntmps95
 go_wp2_with (first|(change wpList _ _ _ _ _ (w.alloc (.cells (qbz qz).toArray 9));rw[←HW.out]));go_ret;exact⟨rfl,HB.out⟩
theorem qjB:(Tryz.prog.info? 9).map (fun i=>(i.zero,i.size,i.bytes))=some (some (.string ⟨#[]⟩),1,16):=by kernel_rfl
def qeQ(w:World)(l i:Value)(wr:World):Prop:=
 ∃k:Nat,i=.int .i64 ((k:Int)+1)∧k≤14∧Hid (wr.ownsRow w.heap.size 9 1 l (10+k) (qbz (qa9++qz.take k)))∧Hid (Below w.heap.size w wr)
def qcs(s:List UInt8)(W:World)(b i:Value)(wr:World):Prop:=
 ∃k:Nat,i=.int .i64 k∧k≤24∧b=.string ⟨((qat.take k).foldl (qD s) []).toArray⟩∧∃q,wr=W.drewN q
theorem qlM(s:List UInt8)(m:Nat):(⟨s.toArray⟩:ByteArray).extract 0 m=⟨(s.take m).toArray⟩:=by
 apply ByteArray.ext;apply Array.ext';rw[Lib.extract_data];simp
theorem qla(s:List UInt8)(m:Nat)(h:m≤s.length)(w:World):
   (Instr.slice 9 (.string ⟨s.toArray⟩) none (some (.int .i64 m)) none).run Tryz.prog w=.ok (.string ⟨(s.take m).toArray⟩) w:=by
 rw[run_slice_string_to_if w 9 _ .i64 (m:Int) Tryz.underlying9,if_pos ⟨by omega,by show(m:Int)≤(s.length:Int);omega⟩,Int.toNat_natCast,qlM]
theorem qlQ(s:List UInt8)(l:List (List UInt8))(b:List UInt8)(hb:b.length≤2)(hl:∀m∈l,m.length≤2):(l.foldl (qD s) b).length≤2:=by
 induction l generalizing b with
 |nil=>exact hb
 |cons m l ih=>
   rw[List.foldl_cons];refine ih _ ?_ fun x hx=>hl x (by simp[hx]);unfold qD;split
   · exact hl m (by simp)
   · exact hb
theorem qmg{w:World}{base size n:Nat}{e:TypeId}{v:Value}{xs:List Value}(h:w.ownsRow base e size v n xs)(hn:0<n):∃g c,v=.slice (some ⟨g,0,none⟩) n c:=by
 rcases h.2 with⟨_,h0⟩|⟨g,c,cur,hv,_⟩
 · omega
 · exact⟨g,c,hv⟩
theorem qeg(k:Nat)(h:k<14):∃hk:k<qz.length,qz[k]=qah ((k:Int)+1):=by
 refine⟨h,?_⟩;unfold qah;rw[if_neg (by omega),show((k:Int)+1-1).toNat=k by omega,List.getD_eq_getElem?_getD,List.getElem?_eq_getElem (show k<qz.length from h)];rfl
theorem qiZ(k:Nat)(h:k<14):qbz (qa9++qz.take k)++[.string ⟨(qah ((k:Int)+1)).toArray⟩]=qbz (qa9++qz.take (k+1)):=by
 obtain⟨hk,e⟩:=qeg k h;rw[List.take_succ_eq_append_getElem hk,e];unfold qbz;simp
theorem qmM{s b m:List UInt8}(h1:m.length≤s.length)(h2:s.take m.length=m)(h3:b.length<m.length):qD s b m=m:=if_pos ⟨h1,h2,h3⟩
theorem qgT{s b m:List UInt8}(h:¬(m.length≤s.length∧s.take m.length=m∧b.length<m.length)):qD s b m=b:=if_neg h
theorem qkY(s:List UInt8)(w:World)(_:s.length≤281474976710656):Calls Tryz.prog 61 #[.string ⟨s.toArray⟩] w fun e w'=>e=.returned (.string ⟨(qbV s).toArray⟩)∧Below w.heap.size w w':=by
 obtain⟨i0,hi,hz0,hz1,hz2⟩:=info_parts qjB
 have H0:Hid ((w.alloc (.cells (qbz qa9).toArray 9)).ownsRow w.heap.size 9 1 (.slice (some ⟨w.heap.size,0,none⟩) 10 10) 10 (qbz (qa9++qz.take 0))):=qb (by
   have h:=World.ownsRow_lit (size:=1) (e:=9) w (qbz qa9).toArray 10 (base:=w.heap.size) (by omega) (by decide) (by decide);exact h)
 have HB0:=qb ((Below.refl w.heap.size w).alloc qe (.cells (qbz qa9).toArray 9));go_enter Tryz.func61,Tryz.ntmps61
 go_wp2_with fail
 go_loopw [3,4] (fun l i wr=>qeQ w l i wr) (fun _ i _=>15-(intOf i).toNat)
 case atStart=>unfold qeQ;exact⟨0,rfl,by omega,H0,HB0⟩
 case round=>
   unfold qeQ at hrel;obtain⟨k,rfl,hk,ho,hb⟩:=hrel;obtain⟨g1,c1,rfl⟩:=qmg ho.out (by omega);by_cases hlt:k<14
   · have hlt':(k:Int)+1≤14:=by omega
     have HS:=qb (qjg ((k:Int)+1) wr (by unfold I64;omega));go_wp2_with fail;refine HS.out.mono ?_;rintro e w1 ⟨rfl,hb1⟩;have ho1:=qv ho.out hb1;have hb2:=hb.out.trans (hb1.mono hb.out.size);have hB:w.heap.size≤w1.heap.size:=hb2.size;have HB2:=qb hb2;clear HS hb hb1 ho hb2;go_wp2_with (at_builtin;refine wpList_append_own _ rfl _ _ 68 rfl w.heap.size 9 i0 (.string ⟨#[]⟩) 1 16 Tryz.underlying68 hi hz0 hz1 hz2 rfl (by decide) _ _ _ rfl (ho1.alloc _) ⟨w1.heap.size,0,none⟩ 1 1 [.string ⟨(qah ((k:Int)+1)).toArray⟩] rfl rfl (qjE _ _ _) (by intro u hu;simp at hu;subst hu;rfl) (by unfold maxLen;omega) (by omega) (by simp;omega) ?_;intro v' w3 hown' hgrow _);have HG:=qb (Got.app (⟨ho1,HB2.out⟩:Got w.heap.size 9 1 (10+k) (qbz (qa9++qz.take k)) (.slice (some ⟨g1,0,none⟩) (10+k) c1) w w1) hB hown' hgrow);clear hown' hgrow ho1 HB2
     go_roundw
     case rel=>unfold qeQ;exact⟨k+1,by go_num,by omega,qb (by rw[←qiZ k hlt];exact HG.out.1),qb HG.out.2⟩
     case measure=>simp[intOf];omega
   · obtain rfl:k=14:=by omega
     clear hi hz0 hz1 hz2 H0 HB0;rw[show 10+14=24 from rfl]at ho ⊢;go_wp2_with fail
     go_loopw [5,6] (fun b i w'=>qcs s wr b i w') (fun _ i _=>24-(intOf i).toNat)
     case atStart=>unfold qcs;exact⟨0,rfl,by omega,rfl,0,rfl⟩
     case round=>
       unfold qcs at hrel;obtain⟨k,rfl,hk,rfl,q,rfl⟩:=hrel;by_cases hlt:k<24
       · have hlt':(k:Int)<24:=by omega
         have hk0:(0:Int)≤(k:Int):=by omega
         have hkl:k<qat.length:=hlt;have c0:=ho.out.cellAt k (by omega);rw[show qa9++qz.take 14=qat from rfl,qds qat k hkl]at c0;have HST:=qb (qiO (qD s) [] qat k hkl);have hbl:=qlQ s (qat.take k) [] (by simp) (fun m hm=>(by decide:∀m∈qat,m.length≤2) m (List.mem_of_mem_take hm));have hml:qat[k].length≤2:=(by decide:∀m∈qat,m.length≤2) _ (List.getElem_mem hkl);obtain⟨b,hb⟩:=qc ((qat.take k).foldl (qD s) []);obtain⟨m,hm⟩:=qc (qat[k]);rw[←hb,←hm]at HST;rw[←hb]at hbl ⊢;rw[←hm]at c0 hml;clear hb hm;by_cases d1:m.length≤s.length
         · have d1':(m.length:Int)≤(s.length:Int):=by omega
           have hsl:=qla s m.length d1;by_cases d2:s.take m.length=m
           · have d2':(s.take m.length==m)=true:=by rw[beq_iff_eq];exact d2
             have D2:=qb d2;clear d2;by_cases d3:b.length<m.length
             · have d3':(b.length:Int)<(m.length:Int):=by omega
               go_wp2_with fail
               go_quiet (fail)
               go_wp2_with fail
               go_roundw
               case rel=>unfold qcs;exact⟨k+1,by go_num,by omega,by rw[HST.out,qmM d1 D2.out d3],_,rfl⟩
               case measure=>simp[intOf];omega
             · have d3':decide ((b.length:Int)<(m.length:Int))=false:=by rw[decide_eq_false_iff_not];omega
               go_wp2_with fail
               go_quiet (fail)
               go_wp2_with fail
               go_roundw
               case rel=>unfold qcs;exact⟨k+1,by go_num,by omega,by rw[HST.out,qgT (fun h=>d3 h.2.2)],_,rfl⟩
               case measure=>simp[intOf];omega
           · have d2':(s.take m.length==m)=false:=by rw[beq_eq_false_iff_ne];exact d2
             have D2:=qb d2;clear d2;go_wp2_with fail
             go_quiet (fail)
             go_wp2_with fail
             go_roundw
             case rel=>unfold qcs;exact⟨k+1,by go_num,by omega,by rw[HST.out,qgT (fun h=>D2.out h.2.1)],_,rfl⟩
             case measure=>simp[intOf];omega
         · have d1':decide ((m.length:Int)≤(s.length:Int))=false:=by rw[decide_eq_false_iff_not];omega
           go_wp2_with fail
           go_quiet (fail)
           go_wp2_with fail
           go_roundw
           case rel=>unfold qcs;exact⟨k+1,by go_num,by omega,by rw[HST.out,qgT (fun h=>d1 h.1)],_,rfl⟩
           case measure=>simp[intOf];omega
       · obtain rfl:k=24:=by omega
         go_wp2_with fail;go_ret;exact⟨rfl,below_drewN hb.out _⟩
end Go.Proofs.YtdndfifkfjoffaaGreatDoor.wd
namespace Go.Proofs.YtdndfifkfjoffaaGreatDoor.lx
open Go.RowKit mem vt wd
theorem qbf(n:Nat)(w:World)(hn:n<256):Calls Tryz.prog 25 #[.int .u8 n] w fun e w'=>e=.returned (.int .i64 (qb9 n))∧w=w':=by
 obtain⟨K,hK⟩:=qc (qb9 n);have HK:=qb hK;rw[←hK];clear hK;go_enter Tryz.func25,Tryz.ntmps25
 go_wp2_with fail;all_goals go_ret
 all_goals refine⟨congrArg (fun x=>Ending.returned (Value.int IntKind.i64 x)) ?_,rfl⟩
 all_goals have hk:=HK.out
 all_goals unfold qb9 at hk
 all_goals try simp only[beq_iff_eq,beq_eq_false_iff_ne]at *
 all_goals (split at hk<;>first|omega|(split at hk<;>first|omega|(split at hk<;>first|omega|(split at hk<;>omega))))
theorem qoO(L:List UInt8)(p:UInt8→Bool)(k:Nat)(hk:k<(L.takeWhile p).length):∃h:k<L.length,p L[k]=true:=by
 have h1:=qgY p L
 have hlt:k<L.length:=by
   have:=(List.takeWhile_sublist p (l:=L)).length_le;omega
 refine⟨hlt,?_⟩;have h2:=qgX p L;rw[List.all_eq_true]at h2
 have h3:(L.takeWhile p)[k]=L[k]:=by
   have:(L.take (L.takeWhile p).length)[k]?=(L.takeWhile p)[k]?:=by rw[h1]
   rw[List.getElem?_take,if_pos hk,List.getElem?_eq_getElem hk,List.getElem?_eq_getElem hlt]at this;exact(Option.some.inj this).symm
 rw[←h3];exact h2 _ (List.getElem_mem hk)
theorem qoz(L:List UInt8)(p:UInt8→Bool)(h:(L.takeWhile p).length<L.length):p (L[(L.takeWhile p).length])=false:=by
 induction L with
 |nil=>simp at h
 |cons c r ih=>
   by_cases hc:p c=true
   · have e:(c::r).takeWhile p=c::r.takeWhile p:=by rw[List.takeWhile_cons,if_pos hc]
     have h2:(r.takeWhile p).length<r.length:=by rw[e]at h;simpa using h
     have:=ih h2;simp only[e,List.length_cons,List.getElem_cons_succ];exact this
   · have e:(c::r).takeWhile p=[]:=by rw[List.takeWhile_cons,if_neg hc]
     simp only[e,List.length_nil,List.getElem_cons_zero];simpa using hc
def qcN(s:ByteArray)(p:UInt8→Bool)(at_:Nat):Nat:=at_+((s.data.toList.drop at_).takeWhile p).length
theorem qc4(s:ByteArray)(p:UInt8→Bool)(at_:Nat)(h:at_≤s.size):qcN s p at_≤s.size∧at_≤qcN s p at_:=by
 unfold qcN;have:=(List.takeWhile_sublist p (l:=s.data.toList.drop at_)).length_le;rw[List.length_drop]at this;have e:s.data.toList.length=s.size:=by simp
 omega
theorem qdN(s:ByteArray)(p:UInt8→Bool)(at_ e:Nat)(h1:at_≤e)(h2:e<qcN s p at_):∃h:e<s.size,p s[e]=true:=by
 unfold qcN at h2;obtain⟨hk,hp⟩:=qoO (s.data.toList.drop at_) p (e-at_) (by omega)
 have he:e<s.size:=by
   rw[List.length_drop]at hk;have e:s.data.toList.length=s.size:=by simp
   omega
 refine⟨he,?_⟩;rw[List.getElem_drop]at hp;simp only[show at_+(e-at_)=e by omega]at hp;exact hp
theorem qgO(s:ByteArray)(p:UInt8→Bool)(at_:Nat)(h:qcN s p at_<s.size):p (s[qcN s p at_])=false:=by
 have hl:((s.data.toList.drop at_).takeWhile p).length<(s.data.toList.drop at_).length:=by
   unfold qcN at h;rw[List.length_drop];have e:s.data.toList.length=s.size:=by simp
   omega
 have:=qoz (s.data.toList.drop at_) p hl;rw[List.getElem_drop]at this;exact this
theorem qmx(s:ByteArray)(p:UInt8→Bool)(at_:Nat):s.extract at_ (qcN s p at_)=⟨((s.data.toList.drop at_).takeWhile p).toArray⟩:=by
 apply ByteArray.ext;apply Array.ext';rw[Lib.extract_data];unfold qcN;rw[show at_+((s.data.toList.drop at_).takeWhile p).length-at_=((s.data.toList.drop at_).takeWhile p).length by omega,qgY]
end Go.Proofs.YtdndfifkfjoffaaGreatDoor.lx
namespace Go.Proofs.YtdndfifkfjoffaaGreatDoor.mem
open Go.RowKit
def Box(w:World)(g:Nat)(t:TypeId)(cs:Array Value):Prop:=w.heap[g]?=some (.cells cs t (0,0))
theorem Box.lt{w:World}{g:Nat}{t:TypeId}{cs:Array Value}(h:Box w g t cs):g<w.heap.size:=(Array.getElem?_eq_some_iff.1 h).1
theorem Box.cell{w:World}{g:Nat}{t:TypeId}{cs:Array Value}(h:Box w g t cs)(i:Nat):w.cell? ⟨g,i,none⟩=cs[i]?:=cell_of_row w g i cs t (0,0) h
theorem Box.frozen{w:World}{g:Nat}{t:TypeId}{cs:Array Value}(h:Box w g t cs)(i:Nat):w.frozen? ⟨g,i,none⟩=false:=by
 unfold Box at h;unfold World.frozen?;rw[h];simp
theorem Box.new(w:World)(t:TypeId)(cs:Array Value)(N:Nat)(h:N=w.heap.size):Box (w.alloc (.cells cs t)) N t cs:=by subst h;exact heap_alloc_new w _
theorem Box.below{w w':World}{B g:Nat}{t:TypeId}{cs:Array Value}(h:Box w g t cs)(hb:Below B w w')(hg:g<B):Box w' g t cs:=(hb.block g hg).trans h
theorem Box.on{w w':World}{g:Nat}{t:TypeId}{cs:Array Value}(h:Box w g t cs)(hb:Below w.heap.size w w'):Box w' g t cs:=h.below hb h.lt
theorem Box.alloc{w:World}{g:Nat}{t:TypeId}{cs:Array Value}(h:Box w g t cs)(o:Obj):Box (w.alloc o) g t cs:=(Below.heap_alloc w o g h.lt).trans h
theorem Box.drew{w:World}{g:Nat}{t:TypeId}{cs:Array Value}(h:Box w g t cs):Box w.drew g t cs:=h
theorem Box.set{w:World}{g:Nat}{t:TypeId}{cs:Array Value}(h:Box w g t cs)(i:Nat)(u:Value):Box (w.setCell ⟨g,i,none⟩ u) g t (cs.setIfInBounds i u):=heap_setCell_same w g i cs t u h
theorem Box.far{w:World}{g:Nat}{t:TypeId}{cs:Array Value}(h:Box w g t cs){p:Addr}(hp:g≠p.block)(u:Value):Box (w.setCell p u) g t cs:=(Below.heap_setCell w p u g hp).trans h
theorem Box.grown{w w':World}{g:Nat}{t:TypeId}{cs:Array Value}{row:Option Nat}(h:Box w g t cs)(hb:w.grownBy w' row)(hg:some g≠row):Box w' g t cs:=(hb.block g h.lt hg).trans h
end Go.Proofs.YtdndfifkfjoffaaGreatDoor.mem

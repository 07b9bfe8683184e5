/- The package's reader ends signs, from the last one on. (and what it stands on) -/
import Derived.Test.YtdndfifkfjoffaaGreatDoorZal
import Derived.Deep.RegionHeld3
import Derived.Deep.LoopGhost
import Derived.Test.YtdndfifkfjoffaaGreatDoorZaa
set_option maxRecDepth 100000
set_option maxHeartbeats 4000000
namespace Go.Proofs.YtdndfifkfjoffaaGreatDoor.pm.em
open Go.RowKit wd lx nt ne pm mem
open vt (I64 qft qt qv qZ qee Typ qc6)
variable{l:List Tk}{v:Value}{w0:World}{rb:Nat}{A A':Nat→Prop}{i j:Int}{wants over:Bool}{rs:List NT}{G:List Frm}{w w':World}
theorem qfj:(Tryz.prog.info? 136).map (fun i=>(i.zero,i.size,i.bytes))=some (some (.agg #[.int .i64 0,.int .i64 0,.int .i64 0,.string ⟨#[]⟩,.slice none 0 0,.int .i64 0,.int .i64 0,.string ⟨#[]⟩,.bool false]),9,104):=by kernel_rfl
theorem qbW{vr vo':Value}{Ao:Option Addr}{co M:Nat}{vs:List Value}{V w3:World}(f:Frm)(cs:List Value)(h:Rd l v w0 rb A i wants over rs G V)(hb:Box V rb RdT #[v,.int .i64 i,.bool wants,.bool over,vr,.slice Ao M co])(hr:Rows w0 rb A rs G vr (.slice Ao M co) vs V)(hM:M=G.length)(hd:Hd f.node)(hcs:cs=qdM G f)
   (hown:w3.ownsRow w0.heap.size BgT 9 vo' (M+1) (qag G++cs))(hg:V.grownBy w3 (Value.slice Ao M co).ownBlock)(hat:∀k,vo'.ownBlock=some k→(Value.slice Ao M co).ownBlock=some k∨V.heap.size≤k):
   (Rd l v w0 rb A i wants over rs (f::G) (w3.setCell ⟨rb,5,none⟩ vo')∧qF A V (w3.setCell ⟨rb,5,none⟩ vo'))∧
   (w3.cell? ⟨rb,5,none⟩=some (.slice Ao M co)∧w3.frozen? ⟨rb,5,none⟩=false∧w3.frozen? ⟨rb,2,none⟩=false∧w3.cell? ⟨rb,2,none⟩=some (.bool wants)):=by
 have ht:Typ V RdT rb:=⟨_,_,hb⟩;have hb3:Box w3 rb RdT _:=hb.grown hg fun e=>(Typ.own hr.opn e.symm).ne ht (by decide) rfl;refine⟨Rd.setb h hb hr hg hat (by rw[List.length_cons,qag,←hM,←hcs];exact hown) (fun g hg=>?_),hb3.cell 5,hb3.frozen 5,hb3.frozen 2,hb3.cell 2⟩;rcases List.mem_cons.1 hg with rfl|hg
 · exact hd
 · exact h.fit g hg
theorem qcp(f:Frm)(k:Nat)(h:Rd l v w0 rb A i wants over rs G w)(hl:rs.length≤1048590)(hG:G.length≤1048590)(hd:Hd f.node)(hs:f.shut=[])(hm:f.many=false)(hk:(rs.length:Int)-k=f.first G):
   Calls Tryz.prog 143 #[.pointer (some ⟨rb,0,none⟩),.agg #[.int .i64 f.node.kind,.int .i64 f.node.at_,.int .i64 f.node.num,.string ⟨f.node.name.toArray⟩,.slice none 0 0],.int .i64 f.bind,.int .i64 k] w (fun e w'=>e=.returned (.tuple #[])∧Rd l v w0 rb A i true over rs (f::G) w'∧qF A w w'):=by
 obtain⟨H,hH⟩:=qc w.heap.size;obtain⟨W,hW⟩:=qc (w.alloc (.cells #[.int .i64 f.node.kind,.int .i64 f.node.at_,.int .i64 f.node.num,.string ⟨f.node.name.toArray⟩,.slice none 0 0] qi));have bH:Box W H qi #[.int .i64 f.node.kind,.int .i64 f.node.at_,.int .i64 f.node.num,.string ⟨f.node.name.toArray⟩,.slice none 0 0]:=by rw[hW];exact Box.new _ _ _ _ hH
 have hb:Below w.heap.size w W:=by rw[hW];exact qd.alloc qe _
 obtain⟨vr,vo,vs,⟨_,_,_,_,c4,c5⟩,hf,hbx,hr⟩:=(h.on_ hb).cells;obtain⟨Ar,cr,rfl⟩:=qt hr.own;obtain⟨Ao,co,rfl⟩:=qt hr.opn;have f5:=hf 5;have f2:=hf 2;have y0:=bH.cell 0;have y1:=bH.cell 1;have y2:=bH.cell 2;have y3:=bH.cell 3;have y4:=bH.cell 4;simp only[qg]at y0 y1 y2 y3 y4;have HW:=qb hW;have HHH:=qb hH;have hrz:rb<W.heap.size:=hbx.lt;have hHz:H<W.heap.size:=bH.lt;have HA:=qb (h.on_ hb);obtain⟨N,hN⟩:=qc rs.length;obtain⟨M,hM⟩:=qc G.length;obtain⟨F,hF⟩:=qc (f.first G);have hx:IntKind.i64.wrap ((N:Int)-k)=F:=by rw[hF,←hk,hN];exact IntWalk.i64_in _ (by omega)
 have hcs:[.int .i64 f.node.kind,.int .i64 f.node.at_,.int .i64 f.node.num,.string ⟨f.node.name.toArray⟩,.slice none 0 0,.int .i64 (F:Int),.int .i64 f.bind,.string ⟨#[]⟩,.bool false]=qdM G f:=by unfold qdM;rw[hs,hm,hF]
 have HST:Hid (∀V w3 vo',Below W.heap.size W V→w3.ownsRow w0.heap.size BgT 9 vo' (M+1) (qag G++[.int .i64 f.node.kind,.int .i64 f.node.at_,.int .i64 f.node.num,.string ⟨f.node.name.toArray⟩,.slice none 0 0,.int .i64 (F:Int),.int .i64 f.bind,.string ⟨#[]⟩,.bool false])→V.grownBy w3 (Value.slice Ao M co).ownBlock→(∀k,vo'.ownBlock=some k→(Value.slice Ao M co).ownBlock=some k∨V.heap.size≤k)→_):=qb (fun V w3 vo' hV h1 h2 h3=>have p:=qbW (wants:=wants) (M:=M) f _ ((h.on_ hb).on_ hV) (by rw[hM];exact hbx.on hV) (by rw[hM];exact⟨qv hr.own hV,hr.nods.below hV,qv hr.opn hV,hr.apr⟩) hM hd hcs h1 h2 h3;And.intro (And.intro p.1.1 ((h.keep hb).trans (((h.on_ hb).keep hV).trans p.1.2))) p.2);have HO:Hid (W.ownsRow w0.heap.size BgT 9 (.slice Ao M co) M (qag G)):=qb (by rw[hM];exact hr.opn);have HBz:Hid (w0.heap.size≤W.heap.size):=qb (Nat.le_trans h.low.size hb.size);have HLN:Hid ((qag G).length=M*9):=qb (by rw[hM];exact qaY G);obtain⟨i0,hi,hz0,hz1,hz2⟩:=info_parts qfj;rw[←hN]at c4 hl;rw[←hM]at c5 hG;obtain⟨bd,hbd⟩:=qc f.bind;obtain⟨nk,hnk⟩:=qc f.node.kind;obtain⟨na,hna⟩:=qc f.node.at_;obtain⟨nn,hnn⟩:=qc f.node.num;obtain⟨nm,hnm⟩:=qc f.node.name;rw[←hnk]at y0 HST HW ⊢;rw[←hna]at y1 HST HW ⊢;rw[←hnn]at y2 HST HW ⊢;rw[←hnm]at y3 HST HW ⊢;rw[←hbd]at HST ⊢;have h1c:Hid (∀u∈[Value.int .i64 nk,.int .i64 na,.int .i64 nn,.string ⟨nm.toArray⟩,.slice none 0 0,.int .i64 (F:Int),.int .i64 bd,.string ⟨#[]⟩,.bool false],u.oneCell'=true):=qb (by intro u hu;simp at hu;rcases hu with rfl|rfl|rfl|rfl|rfl|rfl|rfl|rfl|rfl<;>rfl);clear hW hH bH hb hbx hr hf h hN hM hF hk hd hs hm hcs hbd hnk hna hnn hnm;go_enter Tryz.func143,Tryz.ntmps143
 go_wp2_with (first|(rw[←HW.out,←HHH.out]))
 go_region_law (first
   |(refine step_append_lies _ (by rfl) (.tmp 12) (.tmp 23) 115 (by rfl) w0.heap.size BgT i0 _ 9 104 Tryz.underlying115 hi hz0 hz1 hz2 (by rfl) (by decide) (.slice Ao M co) M (qag G) (by rfl) (HO.out.alloc _) ⟨W.heap.size,0,none⟩ 1 1 [.int .i64 nk,.int .i64 na,.int .i64 nn,.string ⟨nm.toArray⟩,.slice none 0 0,.int .i64 (F:Int),.int .i64 bd,.string ⟨#[]⟩,.bool false] (by rfl) (by rfl) (World.news_of_block (heap_alloc_new W _)) h1c.out (by decide) (by unfold maxLen;omega) (by omega) (by simp;have:=HBz.out;omega) (W.heap.size+1) (by simp) ?_;intro g cap w3 hown hgrow hat hlt;obtain⟨p1,p2,p3,p4,p5⟩:=HST.out _ w3 _ (((Below.refl W.heap.size W).alloc qe _).drew) hown hgrow (fun k hk=>by have e:g=k:=(by simpa [Value.ownBlock]using hk);subst e;exact hat.imp id fun h=>by rw[h];simp);have HP1:=qb p1;clear p1 hown hgrow hat))
 all_goals
   go_wp2_with fail;go_end0;exact⟨rfl,HP1.out.1.setw true,HP1.out.2.set HA.out.not⟩
end Go.Proofs.YtdndfifkfjoffaaGreatDoor.pm.em
namespace Go.Proofs.YtdndfifkfjoffaaGreatDoor.pm.em
open Go.RowKit wd lx nt ne pm mem
open vt (I64 qft qt qv qZ qee Typ qc6)
variable{l:List Tk}{v:Value}{w0:World}{rb:Nat}{A A':Nat→Prop}{i j:Int}{wants over:Bool}{rs:List NT}{G:List Frm}{w w':World}
theorem qmH(w:World):(sizeOf (Tryz.prog.elem 27)).run Tryz.prog w=.ok 5 w:=by kernel_rfl
theorem qlH:Tryz.prog.underlying 27=some (.slice (Tryz.prog.elem 27)):=by kernel_rfl
theorem qh0(n D:Nat)(hn:n≤D)(A:Option Addr)(c:Nat)(w:World):
   (Instr.slice 27 (.slice A D c) (some (.int .i64 n)) none none).run Tryz.prog w=.ok (sliced A n D c 5) w:=by
 have h:=run_slice_l (P:=Tryz.prog) (w:=w) 27 A D c qlH .i64 (n:Int) (by omega) (by omega);rw[h,qmH,Int.toNat_natCast];rfl
theorem qkJ(n D:Nat)(A:Option Addr)(c:Nat)(hn:n≤c)(w:World):
   (Instr.slice 27 (.slice A D c) none (some (.int .i64 n)) none).run Tryz.prog w=.ok (.slice A n c) w:=by
 have h:=run_slice_h (P:=Tryz.prog) (w:=w) 27 A D c qlH .i64 (n:Int) (by omega) (by omega);rw[h,qmH,Int.toNat_natCast];show Result.ok (Value.slice (if c=0 then A else A.map (·.add (0*5))) (n-0) (c-0)) w=_
 have e:(if c=0 then A else A.map (·.add (0*5)))=A:=by
   split
   · rfl
   · cases A with
     |none=>rfl
     |some a=>rfl
 rw[e];rfl
theorem qdK{G:Nat→Prop}{w:World}:∀{a b:List NT} {vs:List Value},qI G w (a++b) vs→∃xs ys,vs=xs++ys∧qI G w a xs∧qI G w b ys
 |[],b,vs,h=>⟨[],vs,rfl,by rw[qI],h⟩
 |x::a,b,vs,h=>by
   rw[List.cons_append,qI]at h;obtain⟨s,rest,rfl,h1,h2,h3⟩:=h;obtain⟨xs,ys,rfl,h4,h5⟩:=qdK h3;refine⟨_::_::_::_::s::xs,ys,rfl,?_,h5⟩;rw[qI];exact⟨s,xs,rfl,h1,h2,h4⟩
theorem qeb{B n m c:Nat}{Ar:Option Addr}{w:World}{xs ys:List Value}(ho:w.ownsRow B qi 5 (.slice Ar (n+m) c) (n+m) (xs++ys))(hx:xs.length=n*5)(hy:ys.length=m*5):
   n≤c∧w.ownsRow B qi 5 (.slice Ar n c) n xs∧((sliced Ar n (n+m) c 5=.slice none 0 0∧m=0)∨∃ad c',sliced Ar n (n+m) c 5=.slice (some ad) m c'∧∀j u,ys[j]?=some u→w.cell? (ad.add j)=some u):=by
 rcases ho.2 with⟨hs,hn⟩|⟨g,cap,cur,hs,hb,hg,hnc,hcm,hcs,htake⟩
 · injection hs with hA _ hc
   subst hA;subst hc;obtain rfl:n=0:=by omega
   obtain rfl:m=0:=by omega
   have h1:xs=[]:=List.eq_nil_of_length_eq_zero (by omega);subst h1;exact⟨Nat.le_refl _,World.ownsRow_nil _ _ _ _,Or.inl ⟨rfl,rfl⟩⟩
 · injection hs with hA _ hc
   subst hA;subst hc;refine⟨by omega,⟨hx,.inr ⟨g,c,cur,rfl,hb,hg,by omega,hcm,hcs,?_⟩⟩,Or.inr ⟨if c=n then⟨g,0,none⟩ else(⟨g,0,none⟩:Addr).add (n*5),c-n,?_,fun j u hu=>?_⟩⟩
   · have e1:(cur.toList.take ((n+m)*5)).take (n*5)=cur.toList.take (n*5):=by rw[List.take_take,Nat.min_eq_left (by omega)]
     rw[←e1,htake,List.take_append_of_le_length (by omega),List.take_of_length_le (by omega)]
   · unfold sliced;rw[show n+m-n=m by omega];split<;>rfl
   · have hjl:=(List.getElem?_eq_some_iff.1 hu).1;have hne:¬c=n:=by omega
     rw[if_neg hne,vt.qaI,vt.qaI,Nat.zero_add,ho.cellAt _ (by omega),List.getElem?_append_right (by omega),←hu]
     congr 1;omega
theorem Rd.pop{f:Frm}{vr:Value}{vs:List Value}{g c M:Nat}(h:Rd l v w0 rb A i wants over rs (f::G) w)(hb:Box w rb RdT #[v,.int .i64 i,.bool wants,.bool over,vr,.slice (some ⟨g,0,none⟩) (M+1) c])(hr:Rows w0 rb A rs (f::G) vr (.slice (some ⟨g,0,none⟩) (M+1) c) vs w)(hM:M=G.length):
   Rd l v w0 rb A i wants over rs G (w.setCell ⟨rb,5,none⟩ (.slice (some ⟨g,0,none⟩) M c))∧qF A w (w.setCell ⟨rb,5,none⟩ (.slice (some ⟨g,0,none⟩) M c)):=by
 have ho:=hr.opn;rw[List.length_cons,qag,←hM]at ho;have h2:=ownsRow_pop (by rw[qaY,hM]) ho;exact Rd.setb h hb hr ⟨rfl,rfl,rfl,Nat.le_refl _,fun _ _ _=>rfl⟩ (fun k hk=>Or.inl hk) (by rw[←hM];exact h2) (fun f' hf'=>h.fit f' (List.mem_cons_of_mem _ hf'))
theorem Rd.kp{vr vo:Value}{vs:List Value}(h:Rd l v w0 rb A i wants over rs G w)(hb:Box w rb RdT #[v,.int .i64 i,.bool wants,.bool over,vr,vo])(hr:Rows w0 rb A rs G vr vo vs w):Rd l v w0 rb (fun b=>A b∨(KP w0 rb vr vo b∧b<w.heap.size)) i wants over rs G w:=
 ⟨h.env,h.low,h.hB,fun b q=>q.elim (h.ap b) fun q=>⟨q.1.1,q.2,q.1.2.1⟩,h.fit,h.num,vr,vo,vs,hb,hr.own,hr.nods,hr.opn,fun b q=>q.elim (hr.apr b) fun q=>⟨q.1.2.2.1,q.1.2.2.2⟩⟩
theorem Rd.cut{vo:Value}{xs ys:List Value}{rs' ks:List NT}{Ar:Option Addr}{c:Nat}(h:Rd l v w0 rb A i wants over (rs'++ks) G w)(hb:Box w rb RdT #[v,.int .i64 i,.bool wants,.bool over,.slice Ar (rs'.length+ks.length) c,vo])(hr:Rows w0 rb A (rs'++ks) G (.slice Ar (rs'.length+ks.length) c) vo (xs++ys) w)(hx:qI (KP w0 rb (.slice Ar (rs'.length+ks.length) c) vo) w rs' xs)(hy:ys.length=ks.length*5):
   Rd l v w0 rb A i wants over rs' G (w.setCell ⟨rb,4,none⟩ (.slice Ar rs'.length c))∧qF A w (w.setCell ⟨rb,4,none⟩ (.slice Ar rs'.length c)):=by
 have ho:=hr.own;rw[List.length_append]at ho;obtain⟨_,h1,_⟩:=qeb ho hx.len hy;have e:(Value.slice Ar rs'.length c).ownBlock=(Value.slice Ar (rs'.length+ks.length) c).ownBlock:=by cases Ar<;>rfl
 exact Rd.setr h hb hr ⟨rfl,rfl,rfl,Nat.le_refl _,fun _ _ _=>rfl⟩ (fun k hk=>Or.inl (e.symm.trans hk)) h1 hx.lt
theorem qhX{w:World}{L:Nat}{a b c d e f g h k:Value}(hb:Box w L BgT #[a,b,c,d,e,f,g,h,k]):w.cell? ⟨L,0,none⟩=some a∧w.cell? ⟨L,1,none⟩=some b∧w.cell? ⟨L,2,none⟩=some c∧w.cell? ⟨L,3,none⟩=some d∧w.cell? ⟨L,4,none⟩=some e∧w.cell? ⟨L,5,none⟩=some f∧w.cell? ⟨L,6,none⟩=some g∧w.cell? ⟨L,7,none⟩=some h∧w.cell? ⟨L,8,none⟩=some k:=⟨hb.cell 0,hb.cell 1,hb.cell 2,hb.cell 3,hb.cell 4,hb.cell 5,hb.cell 6,hb.cell 7,hb.cell 8⟩
theorem Rd.drew_(h:Rd l v w0 rb A i wants over rs G w):Rd l v w0 rb A i wants over rs G w.drew:=h.on_ qd.drew
theorem Rows.drew_{vr vo:Value}{vs:List Value}(h:Rows w0 rb A rs G vr vo vs w):Rows w0 rb A rs G vr vo vs w.drew:=⟨h.own.drew,h.nods.below qd.drew,h.opn.drew,h.apr⟩
theorem qna(h:Rd l v w0 rb A i wants over rs (.brk::G) w)(hG:G.length≤1048590):
   Calls Tryz.prog 152 #[.pointer (some ⟨rb,0,none⟩)] w (fun e w'=>e=.returned (.tuple #[])∧Rd l v w0 rb A i wants over rs G w'∧qF A w w'):=by
 obtain⟨f,hf0⟩:=qc Frm.brk;rw[←hf0]at h;obtain⟨vr,vo,vs,⟨_,_,_,_,_,c5⟩,hf,hbx,hr⟩:=h.cells;obtain⟨g,c,rfl,hgB,hgl,hMc,hc⟩:=qbF hr;have f5:=hf 5;have e0:=hc 0 _ rfl;rw[Nat.add_zero]at e0;have e1:=hc 1 _ rfl;have e2:=hc 2 _ rfl;have e3:=hc 3 _ rfl;have e4:=hc 4 _ rfl;have e5:=hc 5 _ rfl;have e6:=hc 6 _ rfl;have e7:=hc 7 _ rfl;have e8:=hc 8 _ rfl;obtain⟨M,hM⟩:=qc G.length;obtain⟨bd,hbd⟩:=qc f.bind;obtain⟨nk,hnk⟩:=qc f.node.kind;obtain⟨na,hna⟩:=qc f.node.at_;obtain⟨nn,hnn⟩:=qc f.node.num;obtain⟨nm,hnm⟩:=qc f.node.name;obtain⟨sh,hsh⟩:=qc f.shut;obtain⟨mn,hmn⟩:=qc f.many;obtain⟨F,hF⟩:=qc (f.first G);rw[←hM]at c5 e0 e1 e2 e3 e4 e5 e6 e7 e8 hMc hG;rw[←hnk]at e0;rw[←hna]at e1;rw[←hnn]at e2;rw[←hnm]at e3;rw[←hF]at e5;rw[←hbd]at e6;rw[←hsh]at e7;rw[←hmn]at e8
 have hgrb:¬g=rb:=fun e=>by
   have ht:Typ w RdT rb:=⟨_,_,hbx⟩;exact(Typ.own hr.opn (k:=g) rfl).ne ht (by decide) e
 have x3:IntKind.i64.wrap ((M:Int)+1-1)=M:=by rw[IntWalk.i64_in _ (by omega)];omega
 have x4:IntKind.i64.wrap (M:Int)=M:=IntWalk.i64_in _ (by omega);have x6:(0:Int)≤(M:Int):=by omega
 have x7:(M:Int)<(M:Int)+1:=by omega
 have hrz:rb<w.heap.size:=hbx.lt;obtain⟨L,hL⟩:=qc w.heap.size;obtain⟨W1,hW1⟩:=qc ((w.alloc (.cells #[.int .i64 nk,.int .i64 na,.int .i64 nn,.string ⟨nm.toArray⟩,.slice none 0 0,.int .i64 (F:Int),.int .i64 bd,.string ⟨sh.toArray⟩,.bool mn] BgT)).drew);have hb1:Below w.heap.size w W1:=by rw[hW1];exact(qd.alloc qe _).drew
 have bL:Box W1 L BgT #[.int .i64 nk,.int .i64 na,.int .i64 nn,.string ⟨nm.toArray⟩,.slice none 0 0,.int .i64 (F:Int),.int .i64 bd,.string ⟨sh.toArray⟩,.bool mn]:=by rw[hW1];exact(Box.new _ _ _ _ hL).drew
 have hR1:=h.on hb1;have hbx1:=hbx.on hb1
 have hr1:Rows w0 rb (Up A w W1) rs (f::G) vr (.slice (some ⟨g,0,none⟩) (G.length+1) c) vs W1:=by
   refine⟨qv hr.own hb1,hr.nods.below hb1,qv hr.opn hb1,fun b q=>?_⟩;rcases q with q|q
   · exact hr.apr b q
   · exact⟨fun e=>by have:=(hr.own.lt b e.symm).2;omega,fun e=>by have:=(hr.opn.lt b e.symm).2;omega⟩
 rw[←hM]at hbx1 hr1;have hP:=Rd.pop hR1 hbx1 hr1 hM;have HAL:Hid (Up A w W1 L):=qb (Or.inr ⟨by omega,bL.lt⟩);have c5w:W1.cell? ⟨rb,5,none⟩=some (.slice (some ⟨g,0,none⟩) (M+1) c):=hbx1.cell 5;have f5w:W1.frozen? ⟨rb,5,none⟩=false:=hbx1.frozen 5;have HK1:=qb (h.keep hb1);have hMc':(M:Int)≤c:=by omega
 have hnl:¬L=rb:=by omega
 have HP:=qb hP;have HBL:=qb bL;have HW1:=qb hW1;have HL:=qb hL;clear hL hW1 hb1 bL hR1 hbx1 hr1 hP hc hr hbx hf hM hbd hsh hmn h hgB;have hnk0:nk=0:=by rw[hnk,hf0];rfl
 subst hnk0;clear hnk hna hnn hnm hF hf0;go_enter Tryz.func152,Tryz.ntmps152
 go_wp2_with fail;go_region_held3 (fun w'=>w'.cell? ⟨rb,5,none⟩=some (.slice (some ⟨g,0,none⟩) (M+1) c)∧w'.cell? ⟨g,M*9,none⟩=some (.int .i64 0)∧w'.cell? ⟨g,M*9+1,none⟩=some (.int .i64 na)∧w'.cell? ⟨g,M*9+2,none⟩=some (.int .i64 nn)∧w'.cell? ⟨g,M*9+3,none⟩=some (.string ⟨nm.toArray⟩)∧w'.cell? ⟨g,M*9+4,none⟩=some (.slice none 0 0)∧w'.cell? ⟨g,M*9+5,none⟩=some (.int .i64 (F:Int))∧w'.cell? ⟨g,M*9+6,none⟩=some (.int .i64 bd)∧w'.cell? ⟨g,M*9+7,none⟩=some (.string ⟨sh.toArray⟩)∧w'.cell? ⟨g,M*9+8,none⟩=some (.bool mn)) (first|go_keep) (first|fail)
 clear e0 e1 e2 e3 e4 e5 e6 e7 e8 c5 f5;rw[←HW1.out,←HL.out];go_wp2_with fail
 go_still_tail 14,(by kernel_rfl)
 change wpList _ _ _ _ _ W1.drew;obtain⟨m0,_⟩:=qhX HBL.out;go_wp2_with fail;refine bodyPost_ret (results_none rfl _ _ _) rfl ?_;exact⟨rfl,(HP.out.1.mono fun b q=>Or.inl q).drew_,HK1.out.trans fun b q=>HP.out.2 b (Or.inl q)⟩
theorem qdW(f:Frm)(ks:List NT)(hf0:f≠.brk)(hk0:f.node.kind≠0)(h:Rd l v w0 rb A i wants over (rdL G++ks) (f::G) w)(hl:(rdL G++ks).length≤1048590)(hG:G.length≤1048590):
   Calls Tryz.prog 152 #[.pointer (some ⟨rb,0,none⟩)] w (fun e w'=>e=.returned (.tuple #[])∧Rd l v w0 rb A i false over (rdL G++[.mk f.node.kind f.node.at_ f.node.num f.node.name ks]) G w'∧qF A w w'):=by
 have hHd:Hd (.mk f.node.kind f.node.at_ f.node.num f.node.name ks):=h.fit f (List.mem_cons_self ..);obtain⟨rs,hrs⟩:=qc (rdL G++ks);rw[←hrs]at h;obtain⟨vr,vo,vs,⟨_,_,_,_,_,c5⟩,hf,hbx,hr⟩:=h.cells;obtain⟨g,c,rfl,hgB,hgl,hMc,hc⟩:=qbF hr;have f5:=hf 5;have e0:=hc 0 _ rfl;rw[Nat.add_zero]at e0;have e1:=hc 1 _ rfl;have e2:=hc 2 _ rfl;have e3:=hc 3 _ rfl;have e4:=hc 4 _ rfl;have e5:=hc 5 _ rfl;have e6:=hc 6 _ rfl;have e7:=hc 7 _ rfl;have e8:=hc 8 _ rfl;obtain⟨M,hM⟩:=qc G.length;obtain⟨bd,hbd⟩:=qc f.bind;obtain⟨nk,hnk⟩:=qc f.node.kind;obtain⟨na,hna⟩:=qc f.node.at_;obtain⟨nn,hnn⟩:=qc f.node.num;obtain⟨nm,hnm⟩:=qc f.node.name;obtain⟨sh,hsh⟩:=qc f.shut;obtain⟨mn,hmn⟩:=qc f.many;obtain⟨F,hF⟩:=qc (f.first G);rw[←hM]at c5 e0 e1 e2 e3 e4 e5 e6 e7 e8 hMc hG;rw[←hnk]at e0;rw[←hna]at e1;rw[←hnn]at e2;rw[←hnm]at e3;rw[←hF]at e5;rw[←hbd]at e6;rw[←hsh]at e7;rw[←hmn]at e8
 have hgrb:¬g=rb:=fun e=>by
   have ht:Typ w RdT rb:=⟨_,_,hbx⟩;exact(Typ.own hr.opn (k:=g) rfl).ne ht (by decide) e
 have x3:IntKind.i64.wrap ((M:Int)+1-1)=M:=by rw[IntWalk.i64_in _ (by omega)];omega
 have x4:IntKind.i64.wrap (M:Int)=M:=IntWalk.i64_in _ (by omega);have x6:(0:Int)≤(M:Int):=by omega
 have x7:(M:Int)<(M:Int)+1:=by omega
 have hrz:rb<w.heap.size:=hbx.lt;obtain⟨L,hL⟩:=qc w.heap.size;obtain⟨W1,hW1⟩:=qc ((w.alloc (.cells #[.int .i64 nk,.int .i64 na,.int .i64 nn,.string ⟨nm.toArray⟩,.slice none 0 0,.int .i64 (F:Int),.int .i64 bd,.string ⟨sh.toArray⟩,.bool mn] BgT)).drew);have hb1:Below w.heap.size w W1:=by rw[hW1];exact(qd.alloc qe _).drew
 have bL:Box W1 L BgT #[.int .i64 nk,.int .i64 na,.int .i64 nn,.string ⟨nm.toArray⟩,.slice none 0 0,.int .i64 (F:Int),.int .i64 bd,.string ⟨sh.toArray⟩,.bool mn]:=by rw[hW1];exact(Box.new _ _ _ _ hL).drew
 have hR1:=h.on hb1;have hbx1:=hbx.on hb1
 have hr1:Rows w0 rb (Up A w W1) rs (f::G) vr (.slice (some ⟨g,0,none⟩) (G.length+1) c) vs W1:=by
   refine⟨qv hr.own hb1,hr.nods.below hb1,qv hr.opn hb1,fun b q=>?_⟩;rcases q with q|q
   · exact hr.apr b q
   · exact⟨fun e=>by have:=(hr.own.lt b e.symm).2;omega,fun e=>by have:=(hr.opn.lt b e.symm).2;omega⟩
 rw[←hM]at hbx1 hr1;have hP:=Rd.pop hR1 hbx1 hr1 hM;have HAL:Hid (Up A w W1 L):=qb (Or.inr ⟨by omega,bL.lt⟩);have c5w:W1.cell? ⟨rb,5,none⟩=some (.slice (some ⟨g,0,none⟩) (M+1) c):=hbx1.cell 5;have f5w:W1.frozen? ⟨rb,5,none⟩=false:=hbx1.frozen 5;have HK1:=qb (h.keep hb1);have hMc':(M:Int)≤c:=by omega
 have hnl:¬L=rb:=by omega
 have HP:=qb hP;have HBL:=qb bL;have HW1:=qb hW1;have HL:=qb hL;clear hL hW1 hb1 bL hR1 hbx1 hr1 hP hc hr hbx hf hM hbd hsh hmn h hgB;have hk0':(nk==0)=false:=beq_eq_false_iff_ne.2 (by rw[hnk];exact hk0);have HFIT:Hid (Hd (.mk f.node.kind f.node.at_ f.node.num f.node.name ks)):=qb hHd;have HF0:=qb (And.intro hnk (And.intro hna (And.intro hnn (And.intro hnm hF))));have HRS:=qb hrs;clear hk0 hnk hna hnn hnm hF hrs;go_enter Tryz.func152,Tryz.ntmps152
 go_wp2_with fail;go_region_held3 (fun w'=>w'.cell? ⟨rb,5,none⟩=some (.slice (some ⟨g,0,none⟩) (M+1) c)∧w'.cell? ⟨g,M*9,none⟩=some (.int .i64 nk)∧w'.cell? ⟨g,M*9+1,none⟩=some (.int .i64 na)∧w'.cell? ⟨g,M*9+2,none⟩=some (.int .i64 nn)∧w'.cell? ⟨g,M*9+3,none⟩=some (.string ⟨nm.toArray⟩)∧w'.cell? ⟨g,M*9+4,none⟩=some (.slice none 0 0)∧w'.cell? ⟨g,M*9+5,none⟩=some (.int .i64 (F:Int))∧w'.cell? ⟨g,M*9+6,none⟩=some (.int .i64 bd)∧w'.cell? ⟨g,M*9+7,none⟩=some (.string ⟨sh.toArray⟩)∧w'.cell? ⟨g,M*9+8,none⟩=some (.bool mn)) (first|go_keep) (first|fail)
 clear e0 e1 e2 e3 e4 e5 e6 e7 e8 c5 f5;rw[←HW1.out,←HL.out];go_wp2_with fail
 go_still_tail 14,(by kernel_rfl)
 change wpList _ _ _ _ _ W1.drew;obtain⟨m0,m1,m2,m3,m4,m5,_⟩:=qhX HBL.out;go_wp2_with fail;obtain⟨U,hU⟩:=qc (W1.setCell ⟨rb,5,none⟩ (.slice (some ⟨g,0,none⟩) M c));have hP:=HP.out;rw[←hU]at hP ⊢;obtain⟨N,hN⟩:=qc W1.heap.size;have hNU:N=U.heap.size:=by rw[hN,hU];simp[World.setCell]
 rw[←hN];obtain⟨W4,hW4⟩:=qc ((U.alloc (.cells #[.int .i64 nk,.int .i64 na,.int .i64 nn,.string ⟨nm.toArray⟩,.slice none 0 0] qi)).drew);rw[show(U.alloc (.cells #[.int .i64 nk,.int .i64 na,.int .i64 nn,.string ⟨nm.toArray⟩,.slice none 0 0] 29)).drew=W4 from hW4.symm];have bU:Below U.heap.size U W4:=by rw[hW4];exact(qd.alloc qe _).drew
 have bN:Box W4 N qi #[.int .i64 nk,.int .i64 na,.int .i64 nn,.string ⟨nm.toArray⟩,.slice none 0 0]:=by rw[hW4];exact(Box.new _ _ _ _ hNU).drew
 have bL:Box W4 L BgT _:=(show Box U L BgT _ from by rw[hU];exact HBL.out.far hnl _).on bU;clear m0 m1 m2 m3 m4 m5 c5w f5w;obtain⟨hRU,hKU⟩:=hP;obtain⟨vr4,vo4,vs4,_,_,hbxU,hrU⟩:=hRU.cells;have hkp:=hRU.kp hbxU hrU;have hrk:Rows w0 rb (fun b=>Up A w W1 b∨(KP w0 rb vr4 vo4 b∧b<U.heap.size)) rs G vr4 vo4 vs4 U:=⟨hrU.own,hrU.nods,hrU.opn,fun b q=>q.elim (hrU.apr b) fun q=>⟨q.1.2.2.1,q.1.2.2.2⟩⟩;obtain⟨Ar,cr,rfl⟩:=qt hrU.own;obtain⟨xs,ys,rfl,hxs,hys⟩:=qdK (by have:=hrU.nods;rw[HRS.out]at this;exact this);have hlx:=hxs.len;have hly:=hys.len;obtain⟨m,hm⟩:=qc ks.length
 have hFn:F=(rdL G).length:=by
   rw[HF0.out.2.2.2.2,qaU];cases f<;>first|rfl|exact absurd rfl hf0
 have hD:rs.length=F+m:=by rw[HRS.out,List.length_append,hFn,hm]
 rw[List.length_append,←hFn,←hm]at hxs hys;have hown4:=qv hrU.own bU;rw[hD]at hown4 hbxU hrk hkp;have hbx4:=hbxU.on bU;have c4:=hbx4.cell 4;simp only[qg]at c4;obtain⟨hFc,_,htl⟩:=qeb hown4 (by rw[hlx,hFn]) (by rw[hly,hm]);rw[←hm]at hly;have hsf:=fun w=>qh0 F (F+m) (by omega) Ar cr w;have hst:=fun w=>qkJ F (F+m) Ar cr hFc w;obtain⟨_,_,_,_,_,m5,_⟩:=qhX bL;have n4:=bN.cell 4;have g4:=bN.frozen 4;simp only[qg]at n4;have hLz:=bL.lt;have hNz:=bN.lt;have hrz4:=hbx4.lt;have q1:¬rb=N:=by have:=hRU.lt;omega
 have q2:¬L=N:=by have:=HBL.out.lt;omega
 have q3:¬N=rb:=fun e=>q1 e.symm;have q4:¬N=L:=fun e=>q2 e.symm;have q5:¬rb=L:=fun e=>hnl e.symm;have hDl:F+m≤1048590:=by rw[←hD,HRS.out];exact hl
 have z0:(0:Int)≤(F:Int):=by omega
 have z1:(F:Int)≤((F+m:Nat):Int):=by omega
 have z2:(F:Int)≤cr:=by omega
 have HNIL:Hid (W4.drew.ownsRow W4.heap.size qi 5 (.slice none 0 0) 0 []):=qb (World.ownsRow_nil _ _ _ _);obtain⟨i0,hi,hz0,hz1,hz2⟩:=info_parts qcX;have HBN:=qb bN;have HBLL:=qb bL;have HKP:=qb (And.intro hkp (And.intro hbxU hrk));have HXS:=qb hxs;have HYS:=qb hys;have HYL:=qb hly;have HFN:=qb hFn;have HM:=qb hm;have HKU:=qb hKU;have HbU:=qb bU;have HNN:=qb hNU;have HN4:Hid (W4.heap.size=N+1):=qb (by rw[hW4,hNU];simp);have HRL:=qb hRU;clear bN bL hkp hbxU hrk hbx4 hrU hxs hys hlx hly hFn hm hKU hRU hown4 hD bU hW4 hN hU hNU
 have HHD:Hid (Hd (.mk nk na nn nm ks)):=qb (by
   obtain⟨e1,e2,e3,e4,_⟩:=HF0.out;rw[e1,e2,e3,e4];exact HFIT.out)
 rcases htl with⟨hX,hm0⟩|⟨ad,c',hX,hcy⟩
 · rw[hX]at hsf;have hks:ks=[]:=List.eq_nil_of_length_eq_zero (by rw[←HM.out,hm0]);obtain⟨Av,hAv⟩:=qc (none:Option Addr);obtain⟨cv,hcv⟩:=qc (0:Nat);obtain⟨w5,hw5⟩:=qc W4.drew;have HB5:Hid (Below W4.heap.size W4 w5):=qb (by rw[hw5];exact qd.drew);have HSV:Hid (Value.slice none 0 0=.slice Av m cv):=qb (by rw[hAv,hcv,hm0]);have HW5:=qb hw5;have HKS:=qb hks;have HM0:=qb hm0;clear hX hks hAv hcv hw5 hm0
   go_still_tail 9,(by kernel_rfl)
   change wpList _ _ _ _ _ W4.drew;go_wp2_with (at_builtin;refine wpList_append_own_none rfl (.tmp 37) (.tmp 44) 27 rfl W4.heap.size qi i0 5 Tryz.underlying27 hi (.slice none 0 0) 0 [] rfl HNIL.out rfl ?_);rw[show(W4.setCell ⟨N,4,none⟩ (.slice none 0 0)).drew=w5.setCell ⟨N,4,none⟩ (.slice none 0 0) from by rw[HW5.out];rfl,HSV.out];have HKK:Hid (nt.ql (fun b=>W4.heap.size≤b∨(KP w0 rb (.slice Ar (F+m) cr) vo4 b∧b<U.heap.size)) w5 ks (.slice Av m cv)):=qb (by rw[HKS.out,←HSV.out];exact nt.ql.nil_ _ _);obtain⟨W6,hW6⟩:=qc (w5.setCell ⟨N,4,none⟩ (.slice Av m cv));rw[←hW6];have hN5:=HNN.out;have hb4:=HbU.out;have b6:Below U.heap.size U W6:=by rw[hW6];exact(hb4.trans (HB5.out.mono hb4.size)).setCell (p:=⟨N,4,none⟩) (by show U.heap.size≤N;omega) _
   have bN6:Box W6 N qi #[.int .i64 nk,.int .i64 na,.int .i64 nn,.string ⟨nm.toArray⟩,.slice Av m cv]:=by rw[hW6];exact(HBN.out.on HB5.out).set 4 _
   have bL6:Box W6 L BgT #[.int .i64 nk,.int .i64 na,.int .i64 nn,.string ⟨nm.toArray⟩,.slice none 0 0,.int .i64 (F:Int),.int .i64 bd,.string ⟨sh.toArray⟩,.bool mn]:=by rw[hW6];exact(HBLL.out.on HB5.out).far q2 _
   obtain⟨hkp,hbxU,hrk⟩:=HKP.out;have hR6:=hkp.on b6;have hbx6:=hbxU.on b6;have hz6:=b6.size
   have hr6:Rows w0 rb (Up (fun b=>Up A w W1 b∨(KP w0 rb (.slice Ar (F+m) cr) vo4 b∧b<U.heap.size)) U W6) rs G (.slice Ar (F+m) cr) vo4 (xs++ys) W6:=by
     refine⟨qv hrk.own b6,hrk.nods.below b6,qv hrk.opn b6,fun b q=>?_⟩;rcases q with q|q
     · exact hrk.apr b q
     · exact⟨fun e=>by have:=(hrk.own.lt b e.symm).2;omega,fun e=>by have:=(hrk.opn.lt b e.symm).2;omega⟩
   rw[HRS.out]at hR6 hr6;have hR6c:=hR6;rw[HFN.out,HM.out]at hR6c hbx6 hr6;obtain⟨hR7,hK7⟩:=Rd.cut (rs':=rdL G) (ks:=ks) hR6c hbx6 hr6 (by rw[HFN.out,HM.out]at HXS;exact HXS.out.below b6) (by rw[HYL.out,HM.out]);rw[←HFN.out,←HM.out]at hR7 hK7;clear hR6c
   have hkids:nt.ql (fun b=>Up (fun b=>Up A w W1 b∨(KP w0 rb (.slice Ar (F+m) cr) vo4 b∧b<U.heap.size)) U W6 b) W6 ks (.slice Av m cv):=by
     refine HKK.out.carry fun b o u q hc=>?_;have hlt:b<w5.heap.size:=World.block_lt_of_cell? _ _ hc
     have hne:b≠N:=fun e=>by
       have h4:W4.heap.size=N+1:=HN4.out;rcases q with q|q<;>omega
     have hz5:w5.heap.size=W6.heap.size:=by rw[hW6];simp[World.setCell]
     refine⟨?_,?_⟩
     · rcases q with q|q
       · have h4:W4.heap.size=N+1:=HN4.out;exact Or.inr ⟨by omega,by omega⟩
       · exact Or.inl (Or.inr q)
     · rw[hW6];exact(World.cell?_of_block (w:=w5) (w':=w5.setCell ⟨N,4,none⟩ (.slice Av m cv)) (a:=⟨b,o,none⟩) (Below.heap_setCell w5 ⟨N,4,none⟩ _ b hne)).trans hc
   have hkids7:nt.ql (fun b=>Up (fun b=>Up A w W1 b∨(KP w0 rb (.slice Ar (F+m) cr) vo4 b∧b<U.heap.size)) U W6 b) (W6.setCell ⟨rb,4,none⟩ (.slice Ar F cr)) ks (.slice Av m cv):=by
     refine hkids.carry fun b o u q hc=>⟨q,?_⟩;exact(World.cell?_of_block (w:=W6) (w':=W6.setCell ⟨rb,4,none⟩ (.slice Ar F cr)) (a:=⟨b,o,none⟩) (Below.heap_setCell W6 ⟨rb,4,none⟩ _ b (hR6.ap b q).2.2)).trans hc
   have HPUT:=qb (qbB (.mk nk na nn nm ks) (.slice Av m cv) hR7.drew_ (by have h1:=HFN.out;omega) (HHD.out) (hkids7.carry fun b o u q hc=>⟨q,hc⟩));have HK6:Hid (qF A U W6):=qb fun b q=>b6.block b (HRL.out.ap b (Or.inl q)).2.1;have HK7:Hid (qF A W6 (W6.setCell ⟨rb,4,none⟩ (.slice Ar F cr))):=qb fun b q=>hK7 b (Or.inl (Or.inl (Or.inl q)));obtain⟨_,_,_,_,_,m5,_⟩:=qhX bL6;have c4:=hbx6.cell 4;have g4:=hbx6.frozen 4;have n0:=bN6.cell 0;have n1:=bN6.cell 1;have n2:=bN6.cell 2;have n3:=bN6.cell 3;have n4:=bN6.cell 4;rw[←HFN.out,←HM.out]at c4;simp only[qg]at c4 n0 n1 n2 n3 n4;have HRA:=qb HPUT;clear hW6 hN5 hb4 b6 bN6 bL6 hkp hbxU hrk hR6 hbx6 hr6 hz6 hR7 hK7 hkids hkids7 hsf HPUT
   go_still_tail 10,(by kernel_rfl)
   change wpList _ _ _ _ _ W6.drew;go_wp2_with fail;refine HRA.out.out.mono ?_;rintro e w8 ⟨rfl,hR8,hK8⟩;have HR8:=qb hR8;have HK8:Hid (qF A w w8):=qb (HK1.out.trans fun b q=>(hK8 b (Or.inl (Or.inl (Or.inl q)))).trans ((HK7.out b q).trans ((HK6.out b q).trans (HKU.out b (Or.inl q)))));clear hR8 hK8;go_wp2_with fail;go_end0;refine⟨rfl,?_,HK8.out⟩;rw[←HF0.out.1,←HF0.out.2.1,←HF0.out.2.2.1,←HF0.out.2.2.2.1];exact HR8.out.mono fun b q=>Or.inl (Or.inl (Or.inl q))
 · rw[hX]at hsf;have HCY:Hid (∀j u,ys[j]?=some u→W4.drew.cell? (ad.add j)=some u):=qb hcy;have HY1:=qb HYS.out.one;clear hX hcy
   go_still_tail 9,(by kernel_rfl)
   change wpList _ _ _ _ _ W4.drew;go_wp2_with (at_builtin;refine wpList_append_own _ rfl (.tmp 37) (.tmp 44) 27 rfl W4.heap.size qi i0 (.agg #[.int .i64 0,.int .i64 0,.int .i64 0,.string ⟨#[]⟩,.slice none 0 0]) 5 64 Tryz.underlying27 hi hz0 hz1 hz2 rfl (by decide) (.slice none 0 0) 0 [] rfl HNIL.out ad m c' ys rfl HYL.out HCY.out HY1.out (by unfold maxLen;omega) (by omega) qe ?_;intro v' w5 hown hgrow _;rw[Nat.zero_add,List.nil_append]at hown;obtain⟨Av,cv,rfl⟩:=qt hown;have hb5:Below W4.heap.size W4 w5:=((Below.refl W4.heap.size W4).drew).trans (show Below W4.heap.size W4.drew w5 from vt.qhl hgrow);have bN5:=HBN.out.on hb5;have n4':=bN5.cell 4;have g4':=bN5.frozen 4;have HB5:=qb hb5;have HOW:=qb hown;clear hown hgrow hb5 bN5)
   have HKK:Hid (nt.ql (fun b=>W4.heap.size≤b∨(KP w0 rb (.slice Ar (F+m) cr) vo4 b∧b<U.heap.size)) w5 ks (.slice Av m cv)):=qb (by
     have hb5U:=HbU.out.trans (HB5.out.mono HbU.out.size);have h1:=HOW.out;rw[HM.out]at h1;rw[HM.out];have h2:nt.Own W4.heap.size (fun b=>KP w0 rb (.slice Ar (F+ks.length) cr) vo4 b∧b<U.heap.size) w5 ks (.slice Av ks.length cv):=⟨ys,by have:=HYS.out.lt.below hb5U;rw[HM.out]at this;exact this,h1⟩;exact h2.kids (fun b q=>Or.inr q) (fun b q=>Or.inl q))
   obtain⟨W6,hW6⟩:=qc (w5.setCell ⟨N,4,none⟩ (.slice Av m cv));rw[←hW6];have hN5:=HNN.out;have hb4:=HbU.out;have b6:Below U.heap.size U W6:=by rw[hW6];exact(hb4.trans (HB5.out.mono hb4.size)).setCell (p:=⟨N,4,none⟩) (by show U.heap.size≤N;omega) _
   have bN6:Box W6 N qi #[.int .i64 nk,.int .i64 na,.int .i64 nn,.string ⟨nm.toArray⟩,.slice Av m cv]:=by rw[hW6];exact(HBN.out.on HB5.out).set 4 _
   have bL6:Box W6 L BgT #[.int .i64 nk,.int .i64 na,.int .i64 nn,.string ⟨nm.toArray⟩,.slice none 0 0,.int .i64 (F:Int),.int .i64 bd,.string ⟨sh.toArray⟩,.bool mn]:=by rw[hW6];exact(HBLL.out.on HB5.out).far q2 _
   obtain⟨hkp,hbxU,hrk⟩:=HKP.out;have hR6:=hkp.on b6;have hbx6:=hbxU.on b6;have hz6:=b6.size
   have hr6:Rows w0 rb (Up (fun b=>Up A w W1 b∨(KP w0 rb (.slice Ar (F+m) cr) vo4 b∧b<U.heap.size)) U W6) rs G (.slice Ar (F+m) cr) vo4 (xs++ys) W6:=by
     refine⟨qv hrk.own b6,hrk.nods.below b6,qv hrk.opn b6,fun b q=>?_⟩;rcases q with q|q
     · exact hrk.apr b q
     · exact⟨fun e=>by have:=(hrk.own.lt b e.symm).2;omega,fun e=>by have:=(hrk.opn.lt b e.symm).2;omega⟩
   rw[HRS.out]at hR6 hr6;have hR6c:=hR6;rw[HFN.out,HM.out]at hR6c hbx6 hr6;obtain⟨hR7,hK7⟩:=Rd.cut (rs':=rdL G) (ks:=ks) hR6c hbx6 hr6 (by rw[HFN.out,HM.out]at HXS;exact HXS.out.below b6) (by rw[HYL.out,HM.out]);rw[←HFN.out,←HM.out]at hR7 hK7;clear hR6c
   have hkids:nt.ql (fun b=>Up (fun b=>Up A w W1 b∨(KP w0 rb (.slice Ar (F+m) cr) vo4 b∧b<U.heap.size)) U W6 b) W6 ks (.slice Av m cv):=by
     refine HKK.out.carry fun b o u q hc=>?_;have hlt:b<w5.heap.size:=World.block_lt_of_cell? _ _ hc
     have hne:b≠N:=fun e=>by
       have h4:W4.heap.size=N+1:=HN4.out;rcases q with q|q<;>omega
     have hz5:w5.heap.size=W6.heap.size:=by rw[hW6];simp[World.setCell]
     refine⟨?_,?_⟩
     · rcases q with q|q
       · have h4:W4.heap.size=N+1:=HN4.out;exact Or.inr ⟨by omega,by omega⟩
       · exact Or.inl (Or.inr q)
     · rw[hW6];exact(World.cell?_of_block (w:=w5) (w':=w5.setCell ⟨N,4,none⟩ (.slice Av m cv)) (a:=⟨b,o,none⟩) (Below.heap_setCell w5 ⟨N,4,none⟩ _ b hne)).trans hc
   have hkids7:nt.ql (fun b=>Up (fun b=>Up A w W1 b∨(KP w0 rb (.slice Ar (F+m) cr) vo4 b∧b<U.heap.size)) U W6 b) (W6.setCell ⟨rb,4,none⟩ (.slice Ar F cr)) ks (.slice Av m cv):=by
     refine hkids.carry fun b o u q hc=>⟨q,?_⟩;exact(World.cell?_of_block (w:=W6) (w':=W6.setCell ⟨rb,4,none⟩ (.slice Ar F cr)) (a:=⟨b,o,none⟩) (Below.heap_setCell W6 ⟨rb,4,none⟩ _ b (hR6.ap b q).2.2)).trans hc
   have HPUT:=qb (qbB (.mk nk na nn nm ks) (.slice Av m cv) hR7.drew_ (by have h1:=HFN.out;omega) (HHD.out) (hkids7.carry fun b o u q hc=>⟨q,hc⟩));have HK6:Hid (qF A U W6):=qb fun b q=>b6.block b (HRL.out.ap b (Or.inl q)).2.1;have HK7:Hid (qF A W6 (W6.setCell ⟨rb,4,none⟩ (.slice Ar F cr))):=qb fun b q=>hK7 b (Or.inl (Or.inl (Or.inl q)));obtain⟨_,_,_,_,_,m5,_⟩:=qhX bL6;have c4:=hbx6.cell 4;have g4:=hbx6.frozen 4;have n0:=bN6.cell 0;have n1:=bN6.cell 1;have n2:=bN6.cell 2;have n3:=bN6.cell 3;have n4:=bN6.cell 4;rw[←HFN.out,←HM.out]at c4;simp only[qg]at c4 n0 n1 n2 n3 n4;have HRA:=qb HPUT;clear hW6 hN5 hb4 b6 bN6 bL6 hkp hbxU hrk hR6 hbx6 hr6 hz6 hR7 hK7 hkids hkids7 hsf HPUT
   go_still_tail 10,(by kernel_rfl)
   change wpList _ _ _ _ _ W6.drew;go_wp2_with fail;refine HRA.out.out.mono ?_;rintro e w8 ⟨rfl,hR8,hK8⟩;have HR8:=qb hR8;have HK8:Hid (qF A w w8):=qb (HK1.out.trans fun b q=>(hK8 b (Or.inl (Or.inl (Or.inl q)))).trans ((HK7.out b q).trans ((HK6.out b q).trans (HKU.out b (Or.inl q)))));clear hR8 hK8;go_wp2_with fail;go_end0;refine⟨rfl,?_,HK8.out⟩;rw[←HF0.out.1,←HF0.out.2.1,←HF0.out.2.2.1,←HF0.out.2.2.2.1];exact HR8.out.mono fun b q=>Or.inl (Or.inl (Or.inl q))
end Go.Proofs.YtdndfifkfjoffaaGreatDoor.pm.em
namespace Go.Proofs.YtdndfifkfjoffaaGreatDoor.pm.em
open Go.RowKit wd lx nt ne pm mem
open vt (I64)
variable{l:List Tk}{v:Value}{w0:World}{rb:Nat}{A A':Nat→Prop}{i j:Int}{wants over:Bool}{rs:List NT}{G:List Frm}{w w':World}
theorem qhq{f:Frm}{n:NT}(hf:f≠.brk):f.close n=.mk f.node.kind f.node.at_ f.node.num f.node.name (f.kids++[n]):=by
 cases f<;>first|rfl|exact absurd rfl hf
theorem qlv{f:Frm}(h:1≤f.bind):f≠.brk∧f.node.kind≠0:=by
 cases f with
 |brk=>exact absurd h (by decide)
 |un a s=>exact⟨fun e=>(by cases e),(by show(15:Int)≠0;decide)⟩
 |bin a s b x=>exact⟨fun e=>(by cases e),(by show(16:Int)≠0;decide)⟩
 |idx a x=>exact absurd h (by show ¬((1:Int)≤0);decide)
 |arg k a nm ks=>exact absurd h (by show ¬((1:Int)≤0);decide)
def qgn(l:List Tk)(v:Value)(w0:World)(rb:Nat)(A:Nat→Prop)(i:Int)(over:Bool)(t:Int)(G:List Frm)(n:NT)(w:World)(g:Nat)(wr:World):Prop:=
 ∃(G':List Frm) (n':NT),Hid (qn t G' n'=qn t G n)∧Hid (Rd l v w0 rb A i false over (rdL G'++[n']) G' wr)∧Hid (qF A w wr)∧G'.length=g∧Hid ((rdL G'++[n']).length≤1048590)∧Hid (G'.length≤1048590)
theorem qax(t:Int)(n:NT)(ht:1≤t)(ht2:t≤10)(h:Rd l v w0 rb A i false over (rdL G++[n]) G w)(hl:(rdL G++[n]).length≤1048590)(hG:G.length≤1048590):
   Calls Tryz.prog 163 #[.pointer (some ⟨rb,0,none⟩),.int .i64 t] w (fun e w'=>e=.returned (.tuple #[])∧Rd l v w0 rb A i false over (rdL (qn t G n).1++[(qn t G n).2]) (qn t G n).1 w'∧qF A w w'):=by
 have HR:=qb h;have HL:=qb hl;have HG:=qb hG;clear h hl hG;go_enter Tryz.func163,Tryz.ntmps163
 go_wp2_with fail
 go_loopg [] G.length (fun g wr=>qgn l v w0 rb A i over t G n w g wr)
 case atStart=>unfold qgn;exact⟨G,n,qb rfl,HR,qb (qF.refl _ _),rfl,HL,HG⟩
 case round=>
   unfold qgn at hrel;obtain⟨G',n',HE,HRR,HK,hg,HL',HG'⟩:=hrel;have HB:=qb (qbC HRR.out HG'.out);by_cases h1:t≤qan G'
   · cases G' with
     |nil=>exact absurd h1 (by show ¬(t≤0);omega)
     |cons f G2=>
       have hb1:(1:Int)≤f.bind:=by have:t≤f.bind:=h1;omega
       obtain⟨hf1,hf2⟩:=qlv hb1;have HC:Hid (f.close n'=.mk f.node.kind f.node.at_ f.node.num f.node.name (f.kids++[n'])):=qb (qhq hf1);have HE2:Hid (qn t G2 (f.close n')=qn t G n):=qb (by rw[←HE.out];exact(if_pos h1).symm);have e1:rdL (f::G2)++[n']=rdL G2++(f.kids++[n']):=by rw[rdL,List.append_assoc]
       rw[e1]at HRR HL';have HEND:=qb (fun(wr':World) (hb:Below wr.heap.size wr wr')=>qdW f (f.kids++[n']) hf1 hf2 (HRR.out.on_ hb) HL'.out (by have:=HG'.out;simp at this;omega));have HL2:Hid ((rdL G2++[f.close n']).length≤1048590):=qb (by have:=HL'.out;simp only[List.length_append,List.length_cons,List.length_nil]at this ⊢;omega);have HG2:Hid (G2.length≤1048590):=qb (by have:=HG'.out;simp at this;omega);have HRk:=qb (fun(wr':World) (hb:Below wr.heap.size wr wr')=>HRR.out.keep hb);rw[List.length_cons]at hg;obtain⟨b,hb⟩:=qc (qan (f::G2));rw[←hb]at HB h1;clear hb hb1 hf1 hf2 e1 HE;go_wp2_with fail;refine HB.out.mono ?_;rintro e w1 ⟨rfl,hb1⟩;have HEN:=qb (HEND.out w1 hb1);have HKK:=qb (HRk.out w1 hb1);clear hb1;go_wp2_with fail;refine HEN.out.mono ?_;rintro e w2 ⟨rfl,hr2,hk2⟩;have HR2:=qb hr2;have HK2:Hid (qF A w w2):=qb (HK.out.trans (HKK.out.trans hk2));clear hr2 hk2;go_wp2_with fail
       go_roundg G2.length
       case measure=>omega
       case rel=>unfold qgn;exact⟨G2,f.close n',HE2,qb (by rw[HC.out];exact HR2.out),HK2,rfl,HL2,HG2⟩
   · have HE2:Hid (qn t G n=(G',n')):=qb (by rw[←HE.out];exact qb5 (by omega));obtain⟨b,hb⟩:=qc (qan G');rw[←hb]at HB h1;have h1':b<t:=by omega
     have HRk:=qb (fun(wr':World) (hb:Below wr.heap.size wr wr')=>HRR.out.keep hb);clear hb h1;go_wp2_with fail;refine HB.out.mono ?_;rintro e w1 ⟨rfl,hb1⟩;have HR2:=qb (HRR.out.on_ hb1);have HK2:Hid (qF A w w1):=qb (HK.out.trans (HRk.out w1 hb1));clear hb1;go_wp2_with fail;go_end0;rw[HE2.out];exact⟨rfl,HR2.out,HK2.out⟩
end Go.Proofs.YtdndfifkfjoffaaGreatDoor.pm.em

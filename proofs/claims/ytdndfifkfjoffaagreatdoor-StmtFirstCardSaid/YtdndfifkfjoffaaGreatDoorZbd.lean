/- Declarations as the package reads them, over plain lists. (and what it stands on) -/
import Derived.Test.YtdndfifkfjoffaaGreatDoorZbc
import Derived.Deep.LoopGhost
import Derived.Test.YtdndfifkfjoffaaGreatDoorZag
import Derived.Test.YtdndfifkfjoffaaGreatDoorZap
import Derived.Test.YtdndfifkfjoffaaGreatDoorZaa
set_option maxRecDepth 100000
set_option maxHeartbeats 4000000
namespace Go.Proofs.YtdndfifkfjoffaaGreatDoor.pm.sx
open Go.RowKit wd lx nt ne pm mem
open vt (I64 qft qt qv qZ qee Typ qc6)
variable{l:List Tk}{v:Value}{w0:World}{rb:Nat}{A A':Nat→Prop}{i j:Int}{G:List NT}{z:Option NT}{vo:Value}{ss:List Value}{w X Y:World}
def WhP(l:List Tk)(v:Value)(w0:World)(rb:Nat)(A:Nat→Prop)(w:World)(r:Res)(e:Ending)(w':World):Prop:=
 match r with
 |.node n j=>∃s A',e=.returned (.tuple #[.agg #[.int .i64 n.kind,.int .i64 n.at_,.int .i64 n.num,.string ⟨n.name.toArray⟩,s],.bool true])∧(∀b,A b→A' b)∧Rd l v w0 rb A' j [] none w'∧qF A w w'∧w.heap.size≤w'.heap.size∧nt.ql (fun b=>A' b∧¬A b) w' n.kids s∧Hd n
 |.no j=>∃b d e2 f g h k,e=.returned (.tuple #[.agg #[.int .i64 b,.int .i64 d,.int .i64 e2,.string f,.slice g h k],.bool false])∧Rs l v w0 rb j w'∧qF A w w'∧w.heap.size≤w'.heap.size
 |.list _ _=>False
def qhc(l:List Tk)(v:Value)(w0:World)(rb:Nat)(A:Nat→Prop)(w:World)(R:Nat)(r:Res)(g:Nat)(vok:Value)(wr:World):Prop:=
 (∃s,vok=.bool true∧Hid (qfN l g s r)∧Hid (Inv l s)∧Hid (Rd l v w0 rb (fun b=>A b∨b=R) s.i s.G s.z wr)∧Hid (qF A w wr)∧Hid (w.heap.size≤wr.heap.size)∧Hid (Box wr R qi #[.int .i64 0,.int .i64 0,.int .i64 0,.string ⟨#[]⟩,.slice none 0 0])∧Hid (∀b,A b→b<w.heap.size))∨
 (∃j,vok=.bool false∧r=.no j∧g=0∧Hid (Rs l v w0 rb j wr)∧Hid (qF A w wr)∧Hid (w.heap.size≤wr.heap.size)∧Hid (Box wr R qi #[.int .i64 0,.int .i64 0,.int .i64 0,.string ⟨#[]⟩,.slice none 0 0]))
def WhA(l:List Tk)(v:Value)(w0:World)(rb:Nat)(A:Nat→Prop)(b:Bool)(o:Out)(w:World):Prop:=
 match o with
 |.go s=>b=true∧Rd l v w0 rb A s.i s.G s.z w
 |.no j=>b=false∧Rs l v w0 rb j w
theorem qnn{s:St}(h:Inv l s)(hl:l.length≤1048576):cnt s.G≤1049400:=by
 rcases h with h|⟨_,h1,h2⟩
 · rw[h];exact Nat.zero_le _
 · omega
theorem qm0{o:Out}{b:Bool}{r:Res}{R:Nat}{W:World}(ha:WhA l v w0 rb A b o w)(how:qe1 l o r)(hinv:qeK l o)(hA:∀b,A b→b<w.heap.size)(hR:R=w.heap.size)(hW:W=w.alloc (.cells #[.int .i64 0,.int .i64 0,.int .i64 0,.string ⟨#[]⟩,.slice none 0 0] qi)):∃k,qhc l v w0 rb A w R r k (.bool b) W:=by
 have hb:Below w.heap.size w W:=by rw[hW];exact qd.alloc qe _
 have bR:Box W R qi #[.int .i64 0,.int .i64 0,.int .i64 0,.string ⟨#[]⟩,.slice none 0 0]:=by rw[hW];exact Box.new _ _ _ _ hR
 cases o with
 |go s=>
   obtain⟨rfl,h⟩:=ha;obtain⟨k,hk⟩:=how
   exact⟨k,Or.inl ⟨s,rfl,qb hk,qb hinv,qb ((h.on hb).mono fun b q=>q.elim Or.inl fun q=>Or.inr ⟨by omega,by rw[q];exact bR.lt⟩),qb fun b q=>hb.block b (hA b q),qb hb.size,qb bR,qb hA⟩⟩
 |no j=>
   obtain⟨rfl,h⟩:=ha;exact⟨0,Or.inr ⟨j,rfl,how,rfl,qb (h.on hb),qb fun b q=>hb.block b (hA b q),qb hb.size,qb bR⟩⟩
theorem qoA{j:Int}{n:NT}{R:Nat}{a b c d e:Value}(h:Rd l v w0 rb (fun b=>A b∨b=R) j [] (some n) X)(hk:qF A w X)(hs:w.heap.size≤X.heap.size)(hR:Box X R qi #[a,b,c,d,e])(hRw:w.heap.size≤R)(hA:∀b,A b→b<w.heap.size):
   ∃Al kl cl,(X.cell? ⟨rb,3,none⟩=some (.int .i64 n.kind)∧X.cell? ⟨rb,4,none⟩=some (.int .i64 n.at_)∧X.cell? ⟨rb,5,none⟩=some (.int .i64 n.num)∧X.cell? ⟨rb,6,none⟩=some (.string ⟨n.name.toArray⟩)∧X.cell? ⟨rb,7,none⟩=some (.slice Al kl cl))∧
     WhP l v w0 rb A w (.node n j) (.returned (.tuple #[.agg #[.int .i64 n.kind,.int .i64 n.at_,.int .i64 n.num,.string ⟨n.name.toArray⟩,.slice Al kl cl],.bool true])) (nt.five X R (.int .i64 n.kind) (.int .i64 n.at_) (.int .i64 n.num) (.string ⟨n.name.toArray⟩) (.slice Al kl cl)):=by
 obtain⟨vo,ss,hx⟩:=h;obtain⟨m,Al,kl,cl,hb,hz⟩:=hx.box;obtain⟨rfl,hkk,hd⟩:=hz n rfl;refine⟨Al,kl,cl,⟨hb.cell 3,hb.cell 4,hb.cell 5,hb.cell 6,hb.cell 7⟩,?_⟩;have hh:=hx.hold;have hsame:∀k,k≠R→(nt.five X R (.int .i64 n.kind) (.int .i64 n.at_) (.int .i64 n.num) (.string ⟨n.name.toArray⟩) (.slice Al kl cl)).heap[k]?=X.heap[k]?:=fun k hk=>qap hk _ _ _ _ _;have h0:w0.heap.size≤R:=(hx.ap R (Or.inr rfl)).1
 have hrd:Rd l v w0 rb (fun b=>(A b∨b=R)∨(KP w0 rb (fun b=>A b∨b=R) vo ss b∧b<X.heap.size)) j [] none (nt.five X R (.int .i64 n.kind) (.int .i64 n.at_) (.int .i64 n.num) (.string ⟨n.name.toArray⟩) (.slice Al kl cl)):=
   ((show Rd l v w0 rb _ j [] none X from⟨vo,ss,hh⟩).held (fun k _ h2=>hsame k fun e=>h2 (Or.inl (Or.inr e))) (qm hx.low h0 _ _ _ _ _) (by rw[qX];exact Nat.le_refl _)).mono fun b q=>Or.inl q
 refine⟨_,_,rfl,fun b q=>Or.inl (Or.inl q),hrd,hk.trans fun b q=>hsame b fun e=>by have:=hA b q;omega,by rw[qX];exact hs,?_,hd⟩;refine hkk.carry fun b o u q hc=>⟨⟨Or.inr ⟨q,World.block_lt_of_cell? _ _ hc⟩,fun e=>q.2.1 (Or.inl e)⟩,(World.cell?_of_block (w:=X) (a:=⟨b,o,none⟩) (hsame b fun e=>q.2.1 (Or.inr e))).trans hc⟩
theorem qdx(o:Out)(b:Bool)(r:Res)(ha:WhA l v w0 rb A b o w)(how:qe1 l o r)(hinv:qeK l o)(hA:∀b,A b→b<w.heap.size)(hl:l.length≤1048576)(hrb:rb<w.heap.size):
   Calls Tryz.prog 27 #[.pointer (some ⟨rb,0,none⟩),.bool b] w (WhP l v w0 rb A w r):=by
 obtain⟨P,hP⟩:=qc (WhP l v w0 rb A w r:Ending→World→Prop);rw[←hP];have HP:=qb hP;clear hP;obtain⟨R,hR⟩:=qc w.heap.size;obtain⟨W,hW⟩:=qc (w.alloc (.cells #[.int .i64 0,.int .i64 0,.int .i64 0,.string ⟨#[]⟩,.slice none 0 0] qi));obtain⟨k,hrel⟩:=qm0 ha how hinv hA hR hW;have HREL:=qb hrel;have HAG:=qb hA;have HLEN:=qb hl;have hRr:¬R=rb:=by omega
 have hrR:¬rb=R:=fun e=>hRr e.symm;have HRB:=qb hrb;have HWR:Hid (w.heap.size≤R):=qb (by omega);have HW:=qb hW;have HR:=qb hR;clear ha how hinv hA hR hW hrel hrb hl;go_enter Tryz.func27,Tryz.ntmps27
 go_wp2_with (first|(rw[←HW.out,←HR.out]))
 go_loopg [6] k (fun g vok wr=>qhc l v w0 rb A w R r g vok wr)
 case atStart=>exact HREL.out
 case round=>
   unfold qhc at hrel;rcases hrel with⟨s,rfl,HRU,HI,HRD,HK,HS,HBR,HA⟩|⟨j,rfl,hrj,hg,HRS,HK,HS,HBR⟩
   · obtain⟨i,G,z⟩:=s
     cases G with
     |nil=>
       have hru:=HRU.out
       cases gk with
       |succ k=>exact absurd rfl hru.1
       |zero=>
         cases r with
         |no j=>exact hru.elim
         |list ns j=>exact hru.elim
         |node n j=>
           injection hru with e1 e2 e3
           subst e1 e3;have hrd:=HRD.out;simp only at hrd;obtain⟨Al,kl,cl,⟨c3,c4,c5x,c6,c7x⟩,hend⟩:=qoA hrd HK.out HS.out HBR.out HWR.out HA.out;obtain⟨vo,ss,hx⟩:=hrd;have c2:=hx.cells.choose_spec.choose_spec.choose_spec.choose_spec.2.1;obtain⟨Ao,co,rfl⟩:=qt hx.opn;rw[List.length_nil]at c2;obtain⟨⟨z0,z1,z2,z3,z4⟩,k0,k1,k2,k3,k4⟩:=c5 HBR.out;have HEND:=qb hend;clear hx hend;go_wp2_with fail;refine bodyPost_ret (em.qk rfl rfl rfl (qj HBR.out _ _ _ _ _)) rfl ?_;rw[HP.out]
           exact HEND.out
     |cons f G=>
       have hru:=HRU.out
       cases gk with
       |zero=>cases r with
         |node n j=>injection hru with e1 e2;cases e2
         |no j=>exact hru.elim
         |list ns j=>exact hru.elim
       |succ k1=>
         have hrd:=HRD.out;simp only at hrd;have hcn:=qnn HI.out HLEN.out;simp only at hcn;have HGO:=qb (qfg f hrd hcn);have HAP:=qb hrd.ap;obtain⟨vo,ss,hx⟩:=hrd;have c2:=hx.cells.choose_spec.choose_spec.choose_spec.choose_spec.2.1;obtain⟨Ao,co,rfl⟩:=qt hx.opn;obtain⟨N,hN⟩:=qc G.length;rw[List.length_cons,←hN]at c2;have hN0:(0:Int)<(N:Int)+1:=by omega
         have hN1:(0:Int)<((N+1:Nat):Int):=by omega
         have HR2:=qb hru.2;clear hx hru hN hcn;go_wp2_with fail;refine HGO.out.mono ?_;intro e w1 hp;rcases HR2.out with⟨s1,h1,h2⟩|⟨j,h1,h2⟩
         · rw[h1]at hp;obtain⟨rfl,hp1,hp2,hp3⟩:=hp;have HI1:Hid (Inv l s1):=qb (by have q:=HI.out.step (by simp);rw[h1]at q;exact q);have HU1:=qb h2;have HRD1:=qb hp1;have HK1:Hid (qF A w w1):=qb (HK.out.trans (hp2.mono fun b q=>Or.inl q));have HS1:Hid (w.heap.size≤w1.heap.size):=qb (Nat.le_trans HS.out hp3);have HB1:Hid (Box w1 R qi #[.int .i64 0,.int .i64 0,.int .i64 0,.string ⟨#[]⟩,.slice none 0 0]):=qb ((hp2 R (Or.inr rfl)).trans HBR.out);clear hp1 hp2 hp3 h1 h2 c2;go_wp2_with fail
           go_roundg k1
           case measure=>omega
           case rel=>unfold qhc;exact Or.inl ⟨s1,rfl,HU1,HI1,HRD1,HK1,HS1,HB1,HA⟩
         · rw[h1]at hp;obtain⟨rfl,hp1,hp2,hp3⟩:=hp;have HRJ:=qb h2;have HRS1:=qb hp1;have HK1:Hid (qF A w w1):=qb (HK.out.trans (hp2.mono fun b q=>Or.inl q));have HS1:Hid (w.heap.size≤w1.heap.size):=qb (Nat.le_trans HS.out hp3);have HB1:Hid (Box w1 R qi #[.int .i64 0,.int .i64 0,.int .i64 0,.string ⟨#[]⟩,.slice none 0 0]):=qb ((hp2 R (Or.inr rfl)).trans HBR.out);clear hp1 hp2 hp3 h1 h2 c2;go_wp2_with fail
           go_roundg 0
           case measure=>omega
           case rel=>unfold qhc;exact Or.inr ⟨j,rfl,HRJ.out,rfl,HRS1,HK1,HS1,HB1⟩
   · obtain⟨_,_,va,vb,vd,ve,vf,vg,vh,vk,_,hbx⟩:=HRS.out.box;have d3:=hbx.cell 3;have d4:=hbx.cell 4;have d5:=hbx.cell 5;have d6:=hbx.cell 6;have d7:=hbx.cell 7;simp only[qg]at d3 d4 d5 d6 d7;obtain⟨⟨z0,z1,z2,z3,z4⟩,k0,k1,k2,k3,k4⟩:=c5 HBR.out;have HRJ:=qb hrj;clear hbx hrj hg;go_wp2_with fail;refine bodyPost_ret (em.qk rfl rfl rfl (qj HBR.out _ _ _ _ _)) rfl ?_;rw[HP.out,HRJ.out];exact⟨_,_,_,_,_,_,_,rfl,qgN (w:=w) HRS.out HWR.out (fun e=>hRr e) HRB.out _ _ _ _ _,HK.out.trans fun b q=>qap (fun e=>by have h1:=HAG.out b q;have h2:=HWR.out;omega) _ _ _ _ _,by rw[qX];exact HS.out⟩
end Go.Proofs.YtdndfifkfjoffaaGreatDoor.pm.sx
namespace Go.Proofs.YtdndfifkfjoffaaGreatDoor.pm.sx
open Go.RowKit wd lx nt ne pm mem
open vt (I64 qft qt qv qZ qee Typ qc6)
variable{l:List Tk}{v:Value}{w0:World}{rb:Nat}{A A' H K:Nat→Prop}{i j:Int}{G:List NT}{z:Option NT}{w X Y:World}
structure Hx(l:List Tk)(v:Value)(w0:World)(rb:Nat)(A':Nat→Prop)(w:World)(H:Nat→Prop)(j:Int)(z:Option NT)(X:World):Prop where
 rd:Rd l v w0 rb H j [] z X
 sub:∀b,A' b→H b
 keep:qF A' w X
 sz:w.heap.size≤X.heap.size
theorem Hx.lt(h:Hx l v w0 rb A' w H j z X):∀b,H b→w0.heap.size≤b∧b<X.heap.size:=h.rd.ap
theorem Hx.held(h:Hx l v w0 rb A' w H j z X)(hk:∀k,k<X.heap.size→(¬H k∨A' k)→Y.heap[k]?=X.heap[k]?)(low:Below w0.heap.size w0 Y)(hs:X.heap.size≤Y.heap.size):Hx l v w0 rb A' w (Up H X Y) j z Y:=
 ⟨h.rd.held (fun k h1 h2=>hk k h1 (Or.inl h2)) low hs,fun b q=>Or.inl (h.sub b q),h.keep.trans fun b q=>hk b (h.lt b (h.sub b q)).2 (Or.inr q),Nat.le_trans h.sz hs⟩
theorem Hx.on(h:Hx l v w0 rb A' w H j z X)(hb:Below X.heap.size X Y):Hx l v w0 rb A' w (Up H X Y) j z Y:=
 h.held (fun k h1 _=>hb.block k h1) (h.rd.low.trans (hb.mono h.rd.low.size)) hb.size
theorem Hx.set(h:Hx l v w0 rb A' w H j z X){O k:Nat}(hO:H O)(hA:¬A' O)(u:Value):Hx l v w0 rb A' w H j z (X.setCell ⟨O,k,none⟩ u):=by
 have q:=h.held (Y:=X.setCell ⟨O,k,none⟩ u) (fun k2 h1 h2=>Below.heap_setCell X ⟨O,k,none⟩ u k2 fun e=>by
   have e:k2=O:=e;subst e;exact h2.elim (fun h2=>h2 hO) hA) (h.rd.low.setCell (p:=⟨O,k,none⟩) (h.lt O hO).1 _) (by simp[World.setCell])
 exact⟨q.rd.mono fun b q=>Or.inl q,h.sub,q.keep,q.sz⟩
theorem Hx.five(h:Hx l v w0 rb A' w H j z X){O:Nat}(hO:H O)(hA:¬A' O)(a b c d e:Value):Hx l v w0 rb A' w H j z (nt.five X O a b c d e):=((((h.set hO hA a).set hO hA b).set hO hA c).set hO hA d).set hO hA e
theorem qfu{H2:Nat→Prop}{ns:List NT}{s:Value}(ho:qP w0.heap.size (Dn H K X) X ns s)(hk:∀b,H b→Y.heap[b]?=X.heap[b]?)(hH:∀b,H b→H2 b):qP w0.heap.size (Dn H2 K Y) Y ns s:=by
 obtain⟨vs,hv,hr,ha⟩:=ho;have key:∀b,b<X.heap.size→¬Dn H K X b→H b∧¬K b:=fun b h1 h2=>Classical.byContradiction fun e=>h2 ⟨h1,e⟩;refine⟨vs,hv.carry fun b o u q hc=>?_,qZ hr fun k e=>hk k (key k (hr.lt k e).2 (ha k e)).1,fun k e q=>?_⟩
 · have hb:=key b (World.block_lt_of_cell? _ _ hc) q.2.2;exact⟨⟨q.1,q.2.1,fun e=>e.2 ⟨hH b hb.1,hb.2⟩⟩,(World.cell?_of_block (w:=X) (a:=⟨b,o,none⟩) (hk b hb.1)).trans hc⟩
 · have hb:=key k (hr.lt k e).2 (ha k e);exact q.2 ⟨hH k hb.1,hb.2⟩
theorem qd9{ns:List NT}{s:Value}(ho:qP w0.heap.size (Dn H K X) X ns s)(hb:Below X.heap.size X Y){O:Nat}(hO:X.heap.size≤O)(hH:∀b,H b→b<X.heap.size):qP w0.heap.size (Dn (Up H X Y) (fun b=>K b∨b=O) Y) Y ns s:=by
 obtain⟨vs,hv,hr,ha⟩:=ho;have key:∀b,b<X.heap.size→¬Dn H K X b→H b∧¬(K b∨b=O):=fun b h1 h2=>Classical.byContradiction fun e=>h2 ⟨h1,fun e2=>e ⟨e2.1,fun e3=>e3.elim e2.2 fun e3=>by omega⟩⟩;refine⟨vs,hv.carry fun b o u q hc=>?_,qZ hr fun k e=>hb.block k (hr.lt k e).2,fun k e q=>?_⟩
 · have hlt:=World.block_lt_of_cell? _ _ hc;have hb2:=key b hlt q.2.2;exact⟨⟨q.1,q.2.1,fun e=>e.2 ⟨Or.inl hb2.1,hb2.2⟩⟩,(World.cell?_of_block (w:=X) (a:=⟨b,o,none⟩) (hb.block b hlt)).trans hc⟩
 · have hb2:=key k (hr.lt k e).2 (ha k e);exact q.2 ⟨Or.inl hb2.1,hb2.2⟩
theorem Hx.app{O:Nat}{a b c d:Value}{sl sl':Value}{ns ns':List NT}{w9:World}(h:Hx l v w0 rb A' w H j z X)(hx:Box X O qi #[a,b,c,d,sl])(ho:qP w0.heap.size (Dn H K X) X ns sl)(hKH:∀b,K b→H b)(hAK:∀b,A' b→K b)(hO:K O)(hOA:¬A' O)
   (ho9:qP w0.heap.size (Dn H K X) w9 ns' sl')(hg9:X.grownBy w9 sl.ownBlock):Box (w9.setCell ⟨O,4,none⟩ sl') O qi #[a,b,c,d,sl']∧Hx l v w0 rb A' w (Up H X w9) j z (w9.setCell ⟨O,4,none⟩ sl')∧qP w0.heap.size (Dn (Up H X w9) K (w9.setCell ⟨O,4,none⟩ sl')) (w9.setCell ⟨O,4,none⟩ sl') ns' sl'∧Box w9 O qi #[a,b,c,d,sl]∧
     ∀(Z:Nat) (T:TypeId) (cs:Array Value),Box X Z T cs→K Z→Z≠O→Box (w9.setCell ⟨O,4,none⟩ sl') Z T cs:=by
 have hrow:∀k,sl.ownBlock=some k→H k∧¬K k∧k<X.heap.size:=fun k e=>by
   have h1:=(ho.lt k e).2;have h2:H k∧¬K k:=Classical.byContradiction fun q=>ho.choose_spec.2.2 k e ⟨h1,q⟩;exact⟨h2.1,h2.2,h1⟩
 have hne:∀Z,K Z→some Z≠sl.ownBlock:=fun Z q e=>(hrow Z e.symm).2.1 q;have hx9:Box w9 O qi #[a,b,c,d,sl]:=hx.grown hg9 (hne O hO);have hlow9:Below w0.heap.size w0 w9:=h.rd.low.grown hg9 h.rd.low.size fun k e=>(ho.lt k e).1
 have h9:Hx l v w0 rb A' w (Up H X w9) j z w9:=h.held (fun k h1 h2=>hg9.block k h1 fun e=>by
   have q:=hrow k e.symm;rcases h2 with h2|h2
   · exact h2 q.1
   · exact q.2.1 (hAK k h2)) hlow9 hg9.size
 have hOU:Up H X w9 O:=Or.inl (hKH O hO);refine⟨hx9.set 4 sl',h9.set hOU hOA _,?_,hx9,fun Z T cs hz hK hZ=>(hz.grown hg9 (hne Z hK)).far hZ _⟩;have ho2:qP w0.heap.size (Dn H K X) (w9.setCell ⟨O,4,none⟩ sl') ns' sl':=ho9.set ⟨hx.lt,fun e=>e.2 hO⟩ _;have hsz:(w9.setCell ⟨O,4,none⟩ sl').heap.size=w9.heap.size:=by simp[World.setCell]
 refine qbP ho2 fun b hb q=>?_;rw[hsz]at hb;by_cases hlt:b<X.heap.size
 · exact⟨hlt,fun e=>q.2 ⟨Or.inl e.1,e.2⟩⟩
 · exact absurd ⟨Or.inr ⟨by omega,hb⟩,fun e=>hlt (h.lt b (hKH b e)).2⟩ q.2
end Go.Proofs.YtdndfifkfjoffaaGreatDoor.pm.sx
namespace Go.Proofs.YtdndfifkfjoffaaGreatDoor.pm.sx
open Go.RowKit wd lx nt ne pm
theorem qg0(l:List Tk)(i:Int):tyR l i=em.qaV l i:=rfl
def paR(l:List Tk)(i:Int):Res:=
 if (qh l i).kind=1 then
   (match tyR l (i+1)with
   |.node n j=>.node (.mk 50 (qh l i).at_ 0 (qh l i).text [n]) j
   |.list _ j=>.no j
   |.no j=>.no j)
 else .no i
theorem qbi{l:List Tk}{f:Nat}{i:Int}{r:Res}(h:qB l f .param i=some r):r=paR l i:=by
 cases f with
 |zero=>rw[qB]at h;cases h
 |succ f=>
   rw[qE]at h;simp only[prog,ev]at h;unfold paR;by_cases h1:(qh l i).kind=1
   · rw[if_pos (show tN (qh l i)=true by unfold tN;simpa using h1),if_neg (by rw[h1];decide),qgk]at h;rw[if_pos h1]
     cases hx:tyR l (i+1)with
     |node n j=>rw[hx]at h;cases h;rfl
     |list ns j=>rw[hx]at h;cases h
     |no j=>rw[hx]at h;cases h;rfl
   · rw[if_neg (show ¬tN (qh l i)=true by unfold tN;simpa using h1)]at h;rw[if_neg h1];cases h;rfl
theorem qcz(l:List Tk)(i:Int)(hi:i≤(l.length:Int))(h0:0≤i):match paR l i with|.node _ j=>i<j∧j≤(l.length:Int)|.list _ _=>False|.no j=>i≤j∧j≤(l.length:Int):=by
 unfold paR;by_cases h1:(qh l i).kind=1
 · rw[if_pos h1];have hin:=qC (l:=l) (i:=i) (by rw[h1];decide);have he:=qdc l (i+1)
   cases hx:tyR l (i+1)with
   |node n j=>rw[hx]at he;exact⟨by have:=he.2.1;omega,he.2.2.1 (by omega)⟩
   |list ns j=>rw[hx]at he;exact absurd he.1 (by simp[qL.lists])
   |no j=>rw[hx]at he;exact⟨by have:=he.1;omega,he.2 (by omega)⟩
 · rw[if_neg h1];exact⟨Int.le_refl _,hi⟩
def qbH(l:List Tk):Nat→Int→List NT→Option Res
 |0,_,_=>none
 |k+1,p,ns=>
   if isM l p [41]=true then some (.list ns (p+1))
   else if ns=[] then qba (some (paR l p)) fun n j=>qbH l k j (ns++[n])
   else if isM l p [44]=true then qba (some (paR l (p+1))) fun n j=>qbH l k j (ns++[n])
   else some (.no p)
def OnL(rl:Res)(f:List NT→Int→Prop)(r:Res):Prop:=
 match rl with
 |.list ns j=>f ns j
 |.no j=>r=.no j
 |.node _ _=>False
theorem qhI{l:List Tk}{a:Int}{s:List UInt8}{r:Res}:∀(f:Nat) (p:Int) (ns:List NT),qB l f (.funs 53 a s ns) p=some r→
   (∀n j,paR l p=.node n j→∃k rl,qbH l k j (ns++[n])=some rl∧OnL rl (fun ms q=>∃f',qB l f' (.tail 53 a s ms) q=some r) r)∧(∀j,paR l p=.no j→r=.no j)∧(∀ms j,paR l p≠.list ms j)
 |0,p,ns,h=>by rw[qB]at h;cases h
 |f+1,p,ns,h=>by
   rw[qE]at h;simp only[prog,ev]at h;rcases qA h with⟨n,j,ho,hr⟩|⟨j,ho,rfl⟩
   · have e:=qbi ho;refine⟨fun n' j' e2=>?_,fun j' e2=>(by rw[←e]at e2;cases e2),fun ms j' e2=>(by rw[←e]at e2;cases e2)⟩;rw[←e]at e2;cases e2
     simp only[if_pos,ev]at hr;by_cases h1:isM l j [41]=true
     · rw[if_pos (show tM [41] (qh l j)=true from h1),if_neg (qS h1)]at hr;exact⟨1,.list (ns++[n]) (j+1),by rw[qbH,if_pos h1],f,hr⟩
     · rw[if_neg (show ¬tM [41] (qh l j)=true from h1)]at hr;simp only[qbG,ev]at hr;by_cases h2:isM l j [44]=true
       · rw[if_pos (show tM [44] (qh l j)=true from h2),if_neg (qS h2)]at hr;obtain⟨q1,q2,q3⟩:=qhI f (j+1) (ns++[n]) hr
         cases hp:paR l (j+1)with
         |node m q=>
           obtain⟨k,rl,hk,ho⟩:=q1 m q hp
           exact⟨k+1,rl,by rw[qbH,if_neg h1,if_neg (by simp),if_pos h2,hp];exact hk,ho⟩
         |no q=>exact⟨1,.no q,by rw[qbH,if_neg h1,if_neg (by simp),if_pos h2,hp];rfl,q2 q hp⟩
         |list ms q=>exact absurd hp (q3 ms q)
       · rw[if_neg (show ¬tM [44] (qh l j)=true from h2)]at hr;cases hr
         exact⟨1,.no j,by rw[qbH,if_neg h1,if_neg (by simp),if_neg h2],rfl⟩
   · have e:=qbi ho;exact⟨fun n' j' e2=>(by rw[←e]at e2;cases e2),fun j' e2=>(by rw[←e]at e2;cases e2;rfl),fun ms j' e2=>(by rw[←e]at e2;cases e2)⟩
theorem qng{l:List Tk}{a:Int}{s:List UInt8}{f:Nat}{i:Int}{r:Res}(h:qB l f (.fun_ 53 a s) i=some r):
   (isM l i [40]=false∧r=.no i)∨(isM l i [40]=true∧∃k rl,qbH l k (i+1) []=some rl∧OnL rl (fun ms q=>∃f',qB l f' (.tail 53 a s ms) q=some r) r):=by
 cases f with
 |zero=>rw[qB]at h;cases h
 |succ f=>
   rw[qE]at h;simp only[prog,qbG,ev,if_pos]at h;by_cases h1:isM l i [40]=true
   · rw[if_pos (show tM [40] (qh l i)=true from h1),if_neg (qS h1)]at h;refine Or.inr ⟨h1,?_⟩;by_cases h2:isM l (i+1) [41]=true
     · rw[if_pos (show tM [41] (qh l (i+1))=true from h2),if_neg (qS h2)]at h;exact⟨1,.list [] (i+1+1),by rw[qbH,if_pos h2],f,h⟩
     · rw[if_neg (show ¬tM [41] (qh l (i+1))=true from h2)]at h;obtain⟨q1,q2,q3⟩:=qhI f (i+1) [] h
       cases hp:paR l (i+1)with
       |node m q=>
         obtain⟨k,rl,hk,ho⟩:=q1 m q hp
         exact⟨k+1,rl,by rw[qbH,if_neg h2,if_pos rfl,hp];exact hk,ho⟩
       |no q=>exact⟨1,.no q,by rw[qbH,if_neg h2,if_pos rfl,hp];rfl,q2 q hp⟩
       |list ms q=>exact absurd hp (q3 ms q)
   · rw[if_neg (show ¬tM [40] (qh l i)=true from h1)]at h;cases h
     exact Or.inl ⟨em.qo h1,rfl⟩
def qcS(n:NT):Res→Res
 |.node b j=>.node (add n b) j
 |.list ns j=>.list ns j
 |.no j=>.no j
theorem qeS{l:List Tk}{R:SM→Int→Option Res}{f:Nat}{n:NT}{ns:List NT}{k a:Int}{s:List UInt8}{j:Int}{r:Res}(hR:R=qB l f)(hn:n=.mk k a 0 s ns)(h:qba (R .block j) (fun b j=>some (.node (.mk k a 0 s (ns++[b])) j))=some r):∃rb,qB l f .block j=some rb∧r=qcS n rb:=by
 subst hR;rcases qA h with⟨b,q,ho,hr⟩|⟨q,ho,rfl⟩
 · cases hr;exact⟨_,ho,by rw[hn];rfl⟩
 · exact⟨_,ho,rfl⟩
theorem qmO{l:List Tk}{a:Int}{s:List UInt8}{ns:List NT}{f:Nat}{j:Int}{r:Res}(h:qB l f (.tail 53 a s ns) j=some r):
   (isM l j [123]=true∧∃f' rb,qB l f' .block j=some rb∧r=qcS (.mk 53 a 0 s (ns++[.mk 0 0 0 [] []])) rb)∨
   (isM l j [123]=false∧((∃q,tyR l j=.no q∧r=.no q)∨∃t q,tyR l j=.node t q∧∃f' rb,qB l f' .block q=some rb∧r=qcS (.mk 53 a 0 s (ns++[t])) rb)):=by
 cases f with
 |zero=>rw[qB]at h;cases h
 |succ f=>
   rw[qE]at h;simp only[prog,ev,if_pos]at h;by_cases h1:isM l j [123]=true
   · rw[if_pos (show tM [123] (qh l j)=true from h1)]at h;obtain⟨rb,h2,h3⟩:=qeS (n:=.mk 53 a 0 s (ns++[.mk 0 0 0 [] []])) (ns:=ns++[.mk 0 0 0 [] []]) rfl rfl (by simpa using h);exact Or.inl ⟨h1,f,rb,h2,h3⟩
   · rw[if_neg (show ¬tM [123] (qh l j)=true from h1),qgk]at h;refine Or.inr ⟨em.qo h1,?_⟩
     cases hx:tyR l j with
     |node t q=>
       rw[hx]at h;obtain⟨rb,h2,h3⟩:=qeS (n:=.mk 53 a 0 s (ns++[t])) (ns:=ns++[t]) (l:=l) (f:=f) (r:=r) rfl rfl (by simpa [qba]using h)
       exact Or.inr ⟨t,q,rfl,f,rb,h2,h3⟩
     |list ms q=>rw[hx]at h;cases h
     |no q=>rw[hx]at h;cases h;exact Or.inl ⟨q,rfl,rfl⟩
theorem qjm{l:List Tk}{a:Int}{s:List UInt8}{ns:List NT}{f:Nat}{j:Int}{r:Res}(h:qB l f (.tail 54 a s ns) j=some r):∃f' rb,qB l f' .block j=some rb∧r=qcS (.mk 54 a 0 s ns) rb:=by
 cases f with
 |zero=>rw[qB]at h;cases h
 |succ f=>
   rw[qE]at h;simp only[prog]at h;rw[if_neg (by decide)]at h;simp only[ev]at h;obtain⟨rb,h2,h3⟩:=qeS (n:=.mk 54 a 0 s ns) rfl rfl h;exact⟨f,rb,h2,h3⟩
def meR(l:List Tk):List (List UInt8)→Int→List NT→Res
 |[],p,ns=>.list ns p
 |e::es,p,ns=>
   match paR l p with
   |.node n j=>if isM l j e=true then meR l es (j+1) (ns++[n]) else .no j
   |.list _ j=>.no j
   |.no j=>.no j
theorem qkD{l:List Tk}{a:Int}{s:List UInt8}{f:Nat}{i:Int}{r:Res}(h:qB l f (.fun_ 54 a s) i=some r):
   (isM l i [40]=false∧r=.no i)∨(isM l i [40]=true∧OnL (meR l [[44],[44],[41]] (i+1) []) (fun ms q=>∃f',qB l f' (.tail 54 a s ms) q=some r) r):=by
 have step:∀(f:Nat) (p:Int) (ns:List NT),ns.length<2→qB l f (.funs 54 a s ns) p=some r→(∃n j,paR l p=.node n j∧isM l j [44]=true∧∃f',qB l f' (.funs 54 a s (ns++[n])) (j+1)=some r)∨(∃n j,paR l p=.node n j∧isM l j [44]=false∧r=.no j)∨(∃j,paR l p=.no j∧r=.no j):=by
   intro f p ns hl h
   cases f with
   |zero=>rw[qB]at h;cases h
   |succ f=>
     rw[qE]at h;simp only[prog,ev]at h;rcases qA h with⟨n,j,ho,hr⟩|⟨j,ho,rfl⟩
     · have e:=(qbi ho).symm;rw[if_neg (by decide),if_neg (by omega)]at hr;simp only[qbG,ev]at hr;by_cases h2:isM l j [44]=true
       · rw[if_pos (show tM [44] (qh l j)=true from h2),if_neg (qS h2)]at hr;exact Or.inl ⟨n,j,e,h2,f,hr⟩
       · rw[if_neg (show ¬tM [44] (qh l j)=true from h2)]at hr;cases hr
         exact Or.inr (Or.inl ⟨n,j,e,em.qo h2,rfl⟩)
     · exact Or.inr (Or.inr ⟨j,(qbi ho).symm,rfl⟩)
 have last:∀(f:Nat) (p:Int) (ns:List NT),ns.length=2→qB l f (.funs 54 a s ns) p=some r→(∃n j,paR l p=.node n j∧isM l j [41]=true∧∃f',qB l f' (.tail 54 a s (ns++[n])) (j+1)=some r)∨(∃n j,paR l p=.node n j∧isM l j [41]=false∧r=.no j)∨(∃j,paR l p=.no j∧r=.no j):=by
   intro f p ns hl h
   cases f with
   |zero=>rw[qB]at h;cases h
   |succ f=>
     rw[qE]at h;simp only[prog,ev]at h;rcases qA h with⟨n,j,ho,hr⟩|⟨j,ho,rfl⟩
     · have e:=(qbi ho).symm;rw[if_neg (by decide),if_pos hl]at hr;simp only[ev]at hr;by_cases h2:isM l j [41]=true
       · rw[if_pos (show tM [41] (qh l j)=true from h2),if_neg (qS h2)]at hr;exact Or.inl ⟨n,j,e,h2,f,hr⟩
       · rw[if_neg (show ¬tM [41] (qh l j)=true from h2)]at hr;cases hr
         exact Or.inr (Or.inl ⟨n,j,e,em.qo h2,rfl⟩)
     · exact Or.inr (Or.inr ⟨j,(qbi ho).symm,rfl⟩)
 cases f with
 |zero=>rw[qB]at h;cases h
 |succ f=>
   rw[qE]at h;simp only[prog,qbG,ev]at h;by_cases h1:isM l i [40]=true
   · rw[if_pos (show tM [40] (qh l i)=true from h1),if_neg (qS h1),if_neg (by decide)]at h;simp only[ev]at h;refine Or.inr ⟨h1,?_⟩;rcases step f (i+1) [] (by simp) h with⟨n1,j1,e1,m1,f1,g1⟩|⟨n1,j1,e1,m1,rfl⟩|⟨j1,e1,rfl⟩
     · rcases step f1 (j1+1) ([]++[n1]) (by simp) g1 with⟨n2,j2,e2,m2,f2,g2⟩|⟨n2,j2,e2,m2,rfl⟩|⟨j2,e2,rfl⟩
       · rcases last f2 (j2+1) ([]++[n1]++[n2]) (by simp) g2 with⟨n3,j3,e3,m3,f3,g3⟩|⟨n3,j3,e3,m3,rfl⟩|⟨j3,e3,rfl⟩
         · simp only[meR,e1,e2,e3,m1,m2,m3,if_pos];exact⟨f3,g3⟩
         · simp only[meR,e1,e2,e3,m1,m2,m3,if_pos];rfl
         · simp only[meR,e1,e2,e3,m1,m2,if_pos];rfl
       · simp only[meR,e1,e2,m1,m2,if_pos];rfl
       · simp only[meR,e1,e2,m1,if_pos];rfl
     · simp only[meR,e1,m1];rfl
     · simp only[meR,e1];rfl
   · rw[if_neg (show ¬tM [40] (qh l i)=true from h1)]at h;cases h
     exact Or.inl ⟨em.qo h1,rfl⟩
def reF(l:List Tk):Nat→Int→List NT→Option Res
 |0,_,_=>none
 |k+1,p,ns=>qba (some (paR l p)) fun n j=>if isM l j [59]=true then(if isM l (j+1) [125]=true then some (.list (ns++[n]) (j+1+1)) else reF l k (j+1) (ns++[n])) else some (.no j)
def qgL(a:Int)(s:List UInt8):Res→Res
 |.list ns j=>.node (.mk 51 a 0 s ns) j
 |.node n j=>.node n j
 |.no j=>.no j
theorem qh7{l:List Tk}{a:Int}{s:List UInt8}{r:Res}:∀(f:Nat) (p:Int) (ns:List NT),qB l f (.recs a s ns) p=some r→∃k rl,reF l k p ns=some rl∧r=qgL a s rl∧∀n j,rl≠.node n j
 |0,p,ns,h=>by rw[qB]at h;cases h
 |f+1,p,ns,h=>by
   rw[qE]at h;simp only[prog,qbG,ev]at h;rcases qA h with⟨n,j,ho,hr⟩|⟨j,ho,rfl⟩
   · have e:=(qbi ho).symm;by_cases h1:isM l j [59]=true
     · rw[if_pos (show tM [59] (qh l j)=true from h1),if_neg (qS h1)]at hr;by_cases h2:isM l (j+1) [125]=true
       · rw[if_pos (show tM [125] (qh l (j+1))=true from h2),if_neg (qS h2)]at hr;cases hr
         exact⟨1,.list (ns++[n]) (j+1+1),by rw[reF,e];show(if _ then _ else _)=_;rw[if_pos h1,if_pos h2],rfl,fun _ _ e=>by cases e⟩
       · rw[if_neg (show ¬tM [125] (qh l (j+1))=true from h2)]at hr;obtain⟨k,rl,h3,h4,h5⟩:=qh7 f (j+1) (ns++[n]) hr;exact⟨k+1,rl,by rw[reF,e];show(if _ then _ else _)=_;rw[if_pos h1,if_neg h2];exact h3,h4,h5⟩
     · rw[if_neg (show ¬tM [59] (qh l j)=true from h1)]at hr;cases hr
       exact⟨1,.no j,by rw[reF,e];show(if _ then _ else _)=_;rw[if_neg h1],rfl,fun _ _ e=>by cases e⟩
   · have e:=(qbi ho).symm;exact⟨1,.no j,by rw[reF,e];rfl,rfl,fun _ _ e=>by cases e⟩
inductive qoC(l:List Tk)(i:Int):Prop
 |zero (h:¬(isM l i [91]=true∧(qh l (i+1)).kind=2∧(qh l (i+1)).n≠0)):qoC l i
 |some_ (h:isM l i [91]=true∧(qh l (i+1)).kind=2∧(qh l (i+1)).n≠0):qoC l i
def byR(l:List Tk)(a:Int)(s:List UInt8)(n:Int)(t:NT)(k:Int):Res:=
 if isW l k sBy=true then
   (if (qh l (k+1)).kind=1 then(if isM l (k+1+1) [59]=true then .node (.mk 52 a n s [t,.mk 12 (qh l (k+1)).at_ 0 (qh l (k+1)).text []]) (k+1+1+1) else .no (k+1+1)) else .no (k+1))
 else if isM l k [59]=true then .node (.mk 52 a n s [t]) (k+1) else .no k
def qd2(l:List Tk)(a:Int)(s:List UInt8)(n:Int)(j:Int):Res:=
 match tyR l j with
 |.node t k=>byR l a s n t k
 |.list _ k=>.no k
 |.no k=>.no k
def qnq(l:List Tk)(a:Int)(s:List UInt8)(i:Int):Res:=
 if isM l i [91]=true∧(qh l (i+1)).kind=2∧(qh l (i+1)).n≠0 then(if isM l (i+1+1) [93]=true then qd2 l a s (qh l (i+1)).n (i+1+1+1) else .no (i+1+1))
 else qd2 l a s 0 i
theorem qly{l:List Tk}{a:Int}{s:List UInt8}{n:Int}{t:NT}{f:Nat}{k:Int}{r:Res}(h:qB l f (.by_ a s n t) k=some r):r=byR l a s n t k:=by
 cases f with
 |zero=>rw[qB]at h;cases h
 |succ f=>
   rw[qE]at h;simp only[prog,qbG,ev]at h;unfold byR;by_cases h1:isW l k sBy=true
   · rw[if_pos (show tW sBy (qh l k)=true from h1),if_neg (qao h1)]at h;rw[if_pos h1];by_cases h2:(qh l (k+1)).kind=1
     · rw[if_pos (show tN (qh l (k+1))=true by unfold tN;simpa using h2),if_neg (by rw[h2];decide)]at h;rw[if_pos h2];by_cases h3:isM l (k+1+1) [59]=true
       · rw[if_pos (show tM [59] (qh l (k+1+1))=true from h3),if_neg (qS h3)]at h;rw[if_pos h3];cases h;rfl
       · rw[if_neg (show ¬tM [59] (qh l (k+1+1))=true from h3)]at h;rw[if_neg h3];cases h;rfl
     · rw[if_neg (show ¬tN (qh l (k+1))=true by unfold tN;simpa using h2)]at h;rw[if_neg h2];cases h;rfl
   · rw[if_neg (show ¬tW sBy (qh l k)=true from h1)]at h;rw[if_neg h1];by_cases h3:isM l k [59]=true
     · rw[if_pos (show tM [59] (qh l k)=true from h3),if_neg (qS h3)]at h;rw[if_pos h3];cases h;rfl
     · rw[if_neg (show ¬tM [59] (qh l k)=true from h3)]at h;rw[if_neg h3];cases h;rfl
theorem qhT{l:List Tk}{a:Int}{s:List UInt8}{n:Int}{f:Nat}{j:Int}{r:Res}(h:qB l f (.kind a s n) j=some r):r=qd2 l a s n j:=by
 cases f with
 |zero=>rw[qB]at h;cases h
 |succ f=>
   rw[qE]at h;simp only[prog,ev]at h;rw[qgk]at h;unfold qd2
   cases hx:tyR l j with
   |node t k=>rw[hx]at h;exact qly h
   |list ns k=>rw[hx]at h;cases h
   |no k=>rw[hx]at h;cases h;rfl
theorem qns{l:List Tk}{a:Int}{s:List UInt8}{f:Nat}{i:Int}{r:Res}(h:qB l f (.iso a s) i=some r):r=qnq l a s i:=by
 cases f with
 |zero=>rw[qB]at h;cases h
 |succ f=>
   rw[qE]at h;simp only[prog,qbG,ev]at h;unfold qnq;by_cases h1:isM l i [91]=true
   · rw[if_pos (show tM [91] (qh l i)=true from h1),if_neg (qS h1)]at h;by_cases h2:isM l (i+1) [93]=true
     · have hk:=em.qdj h2;rw[if_pos (show tM [93] (qh l (i+1))=true from h2),if_neg (qS h2),qgk]at h;rw[if_neg (fun q=>by have:=q.2.1;omega)];have e:=em.qin h1 h2;unfold qd2;rw[qg0,e,show i+2=i+1+1 by omega,←qg0]
       cases hx:tyR l (i+1+1)with
       |node t k=>rw[hx]at h;exact qly h
       |list ns k=>rw[hx]at h;cases h
       |no k=>rw[hx]at h;cases h;rfl
     · rw[if_neg (show ¬tM [93] (qh l (i+1))=true from h2)]at h;by_cases h3:(qh l (i+1)).kind=2∧(qh l (i+1)).n≠0
       · rw[if_pos (by simp[h3.1,h3.2]),if_neg (by rw[h3.1];decide)]at h;rw[if_pos ⟨h1,h3⟩];by_cases h4:isM l (i+1+1) [93]=true
         · rw[if_pos (show tM [93] (qh l (i+1+1))=true from h4),if_neg (qS h4)]at h;rw[if_pos h4];exact qhT h
         · rw[if_neg (show ¬tM [93] (qh l (i+1+1))=true from h4)]at h;rw[if_neg h4];cases h;rfl
       · rw[if_neg (fun q=>h3 (by simpa using q))]at h;rw[if_neg (fun q=>h3 q.2)];cases h
         unfold qd2;rw[qg0,em.qio h1 (em.qo h2)]
   · rw[if_neg (show ¬tM [91] (qh l i)=true from h1)]at h;rw[if_neg (fun q=>h1 q.1)];exact qhT h
end Go.Proofs.YtdndfifkfjoffaaGreatDoor.pm.sx

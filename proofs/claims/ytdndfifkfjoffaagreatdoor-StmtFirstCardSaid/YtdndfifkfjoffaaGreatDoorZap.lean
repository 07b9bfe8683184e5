/- A type read from tokens: what the package's way comes to, over plain lists. (and what it stands on) -/
import Derived.Test.YtdndfifkfjoffaaGreatDoorZao
import Derived.RangeFuncNested
import Derived.RangeFuncBound
import Derived.RangeFuncCalls
import Derived.RangeFuncLeaves
import Derived.RangeFuncBox
import Derived.Shelf.Abstract
import Derived.OwnWalkIn
import Derived.TacticsInMore
import Derived.LoopNIn
import Derived.LoopIn
import Derived.Test.YtdndfifkfjoffaaGreatDoorZal
import Derived.Test.YtdndfifkfjoffaaGreatDoorZaj
import Derived.Test.YtdndfifkfjoffaaGreatDoorZaa
set_option maxRecDepth 100000
set_option maxHeartbeats 4000000
namespace Go.Proofs.YtdndfifkfjoffaaGreatDoor.pm.em
open Go.RowKit wd lx nt ne pm mem
open vt (I64)
variable{l:List Tk}{v:Value}{w0:World}{rb:Nat}{A A':Nat→Prop}{i j:Int}{wants over:Bool}{rs:List NT}{G:List Frm}{w w':World}
def qfd(l:List Tk)(i:Int)(G:List Frm):Out:=
 if (qh l i).kind=2 then .go (.have_ (i+1) G (.mk 10 (qh l i).at_ (qh l i).n [] []))
 else if pm.isW l i qb4=true then .go (.have_ (i+1) G (.mk 11 (qh l i).at_ 1 [] []))
 else if pm.isW l i qbu=true then .go (.have_ (i+1) G (.mk 11 (qh l i).at_ 0 [] []))
 else if (qh l i).kind=1 then(if isM l (i+1) [40]=true then qaO l i 17 (qh l i).at_ G else .go (.have_ (i+1) G (.mk 12 (qh l i).at_ 0 (qh l i).text [])))
 else .no i
theorem qlP(l:List Tk)(i:Int)(G:List Frm):qfd l i G=match qb8 (qh l i)with
   |none=>.no i
   |some n=>if n.kind=12∧isM l (i+1) [40]=true then qar l (i+1) 17 n.at_ n.name [] G else .go (.have_ (i+1) G n):=by
 unfold qfd qb8;by_cases h1:(qh l i).kind=2
 · rw[if_pos h1,if_pos h1];simp[NT.kind]
 rw[if_neg h1,if_neg h1];by_cases h2:qaD (qh l i) qb4=true
 · rw[if_pos (show pm.isW l i qb4=true from h2),if_pos h2];simp[NT.kind]
 rw[if_neg (show ¬pm.isW l i qb4=true from h2),if_neg h2];by_cases h3:qaD (qh l i) qbu=true
 · rw[if_pos (show pm.isW l i qbu=true from h3),if_pos h3];simp[NT.kind]
 rw[if_neg (show ¬pm.isW l i qbu=true from h3),if_neg h3];by_cases h4:(qh l i).kind=1
 · rw[if_pos h4,if_pos h4];by_cases h5:isM l (i+1) [40]=true
   · rw[if_pos h5];simp only[NT.kind,h5,and_self,if_true];unfold qaO;rw[if_pos h4];rfl
   · rw[if_neg h5];simp only[NT.kind,h5,and_false,if_false];rfl
 · rw[if_neg h4,if_neg h4]
theorem qiw{t:Tk}{n:NT}(h:qb8 t=some n)(ha:I64 t.at_)(hn:I64 t.n)(hs:t.text.length≤281474976710656):n.kids=[]∧Hd n∧t.kind≠0∧(n.kind=12→n.num=0):=by
 have h0:I64 (0:Int):=by unfold I64;omega
 have h1:I64 (1:Int):=by unfold I64;omega
 have h10:I64 (10:Int):=by unfold I64;omega
 have h11:I64 (11:Int):=by unfold I64;omega
 have h12:I64 (12:Int):=by unfold I64;omega
 have hk:t.kind=1∨t.kind=2∨t.kind=3:=by
   unfold qb8 qaD at h;by_cases q1:t.kind=2
   · exact Or.inr (Or.inl q1)
   by_cases q3:t.kind=3
   · exact Or.inr (Or.inr q3)
   simp[q1,q3]at h;exact Or.inl h.1
 have hz:(0:Nat)≤281474976710656:=by omega
 unfold qb8 at h
 repeat' split at h
 · injection h with h;rw[←h];exact⟨rfl,⟨h10,ha,hn,hz⟩,by omega,fun e=>absurd e (by show ¬(10:Int)=12;decide)⟩
 · injection h with h;rw[←h];exact⟨rfl,⟨h11,ha,h1,hz⟩,by omega,fun e=>absurd e (by show ¬(11:Int)=12;decide)⟩
 · injection h with h;rw[←h];exact⟨rfl,⟨h11,ha,h0,hz⟩,by omega,fun e=>absurd e (by show ¬(11:Int)=12;decide)⟩
 · injection h with h;rw[←h];exact⟨rfl,⟨h12,ha,h0,hs⟩,by omega,fun _=>rfl⟩
 · cases h
theorem Rd.one(h:Rd l v w0 rb A i wants over rs G w)(hb:Below w.heap.size w w'):Rd l v w0 rb (fun b=>w.heap.size≤b∧b<w'.heap.size) i wants over rs G w':=(h.on hb).mono fun _ q=>Or.inr q
theorem Rd.non(h:Rd l v w0 rb A i wants over rs G w):Rd l v w0 rb (fun _=>False) i wants over rs G w:=h.mono fun _ q=>q.elim
theorem qiK(h:Rd l v w0 rb A i wants false (rdL G) G w)(ha:qb8 (qh l i)=none):
   Calls Tryz.prog 147 #[.pointer (some ⟨rb,0,none⟩)] w (qw l v w0 rb (.no i)):=by
 have HR:=qb h;have HC:=qb (qs h);have HAF:=qb ha;clear h ha;go_enter Tryz.func147,Tryz.ntmps147
 go_wp2_with fail;refine HC.out.mono ?_;rintro e w1 ⟨rfl,hb1⟩;have HA:=qb (qfT (qh l i) w1 ((HR.out.on hb1).ldw) (fun hk=>(HR.out.env.good i).1 hk) (fun hk=>(HR.out.env.good i).2 hk));rw[HAF.out]at HA;have HB1:=qb hb1;clear hb1;unfold tkA at HA ⊢;go_wp2_with fail;refine HA.out.mono ?_;intro e w2 hp;obtain⟨rfl,hb2⟩:=hp;have hb12:=HB1.out.trans (hb2.mono HB1.out.size);have HR2:Hid (Rd l v w0 rb (fun _=>False) i wants false (rdL G) G (w2.alloc (.cells #[.int .i64 0,.int .i64 0,.int .i64 0,.string ⟨#[]⟩,.slice none 0 0] qi))):=qb (HR.out.on (hb12.alloc hb12.size _)).non;clear hb2 hb12;go_wp2_with fail;go_ret;exact⟨rfl,_,_,_,_,HR2.out⟩
theorem qhG{n:NT}{w2 X:World}(h:Rd l v w0 rb A i wants over rs G w)(hb:Below w.heap.size w w2)(hj:I64 (i+1))(hX:X=(w2.setCell ⟨rb,1,none⟩ (.int .i64 (i+1))).alloc (.cells #[.int .i64 n.kind,.int .i64 n.at_,.int .i64 n.num,.string ⟨n.name.toArray⟩,.slice none 0 0] qi)):
   Rd l v w0 rb (fun b=>b=w2.heap.size) (i+1) wants over rs G X∧Box X w2.heap.size qi #[.int .i64 n.kind,.int .i64 n.at_,.int .i64 n.num,.string ⟨n.name.toArray⟩,.slice none 0 0]:=by
 have h2:=((h.on hb).seti hj).non;subst hX;have hz:(w2.setCell ⟨rb,1,none⟩ (.int .i64 (i+1))).heap.size=w2.heap.size:=by simp[World.setCell]
 refine⟨(h2.one (qd.alloc qe _)).mono fun b q=>by subst q;rw[hz];simp[World.setCell],Box.new _ _ _ _ hz.symm⟩
theorem qiM(n:NT)(b12 bp:Bool)(o:Out)(ho:o=if b12=true∧bp=true then qar l (i+1) 17 n.at_ n.name [] G else .go (.have_ (i+1) G n))(h:Rd l v w0 rb A i wants false (rdL G) G w)(ha:qb8 (qh l i)=some n)(h12:decide (n.kind=12)=b12)(hp:isM l (i+1) [40]=bp)(hl:(rdL G).length≤1048580)(hG:G.length≤1048580):
   Calls Tryz.prog 147 #[.pointer (some ⟨rb,0,none⟩)] w (qw l v w0 rb o):=by
 have HO:=qb ho;clear ho;have hfr:=h.env.src.fair i;obtain⟨hk0,hd0,hin,hnum⟩:=qiw ha hfr.1 hfr.2.1 hfr.2.2;have hin:=qC hin;have hlen:=h.env.src.len;have hx:IntKind.i64.wrap (i+1)=i+1:=IntWalk.i64_in _ (by omega);have HJ:Hid (I64 (i+1)):=qb (by unfold I64;omega);have HR:=qb h;have HC:=qb (qs h);have HAF:=qb ha;have HL:=qb hl;have HG:=qb hG;have HP:=qb hp;obtain⟨nk,na,nn,nm,nks⟩:=n;have hk0':nks=[]:=hk0;subst hk0';have HD0:=qb hd0;change decide (nk=12)=b12 at h12;change nk=12→nn=0 at hnum;have HNUM:=qb hnum;clear h ha hfr hk0 hd0 hin hlen hl hG hp hnum;go_enter Tryz.func147,Tryz.ntmps147
 go_wp2_with fail;refine HC.out.mono ?_;rintro e w1 ⟨rfl,hb1⟩;have HA:=qb (qfT (qh l i) w1 ((HR.out.on hb1).ldw) (fun hk=>(HR.out.env.good i).1 hk) (fun hk=>(HR.out.env.good i).2 hk));rw[HAF.out]at HA;have HB1:=qb hb1;clear hb1;unfold tkA at HA ⊢;go_wp2_with fail;refine HA.out.mono ?_;intro e w2 hp;obtain⟨rfl,hb2⟩:=hp;have hb12:=HB1.out.trans (hb2.mono HB1.out.size);obtain⟨vr,vo,vs,⟨_,c1,_⟩,hf,hbx,_⟩:=(HR.out.on hb12).cells;have f1:=hf 1;have hrz:rb<w2.heap.size:=hbx.lt;have hrn:¬rb=w2.heap.size:=by omega
 have HR2s:=qb ((HR.out.on hb12).seti HJ.out).non;have HST:=qb (fun X hX=>qhG (n:=.mk nk na nn nm []) (X:=X) HR.out hb12 HJ.out hX);clear hb2 hb12 hf hbx
 dsimp only[NT.kind,NT.at_,NT.num,NT.name]
 cases b12 with
 |false=>
   have hk12:(nk==12)=false:=beq_eq_false_iff_ne.2 (of_decide_eq_false h12);clear h12;go_wp2_with fail;obtain⟨hr3,bN⟩:=HST.out _ rfl;have HPUT:=qb (qbB (.mk nk na nn nm []) (.slice none 0 0) hr3 (by have:=HL.out;omega) HD0.out (nt.ql.nil_ _ _));refine HPUT.out.mono ?_;rintro e w4 ⟨rfl,hr4,_⟩;have HR4:=qb hr4.non;clear hr4 hr3 bN;go_wp2_with fail;go_ret;rw[HO.out,if_neg (by simp)]
   exact⟨rfl,HR4.out⟩
 |true=>
   have hk12:nk=12:=of_decide_eq_true h12;subst hk12;have hn0:nn=0:=HNUM.out rfl;subst hn0;clear h12;go_wp2_with fail;obtain⟨X,hX⟩:=qc ((w2.setCell ⟨rb,1,none⟩ (.int .i64 (i+1))).alloc (.cells #[.int .i64 12,.int .i64 na,.int .i64 0,.string ⟨nm.toArray⟩,.slice none 0 0] qi));obtain⟨N,hN⟩:=qc w2.heap.size;obtain⟨hr3,bN⟩:=HST.out X hX;rw[←hN]at hr3 bN ⊢;rw[show(w2.setCell ⟨rb,1,none⟩ (.int .i64 (i+1))).alloc (.cells #[.int .i64 12,.int .i64 na,.int .i64 0,.string ⟨nm.toArray⟩,.slice none 0 0] 29)=X from hX.symm];have HR3:=qb hr3;have HBN:=qb bN;have HT3:=qb (qs hr3)
   have HBX:Hid (Below N (w2.setCell ⟨rb,1,none⟩ (.int .i64 (i+1))) X∧N=(w2.setCell ⟨rb,1,none⟩ (.int .i64 (i+1))).heap.size):=qb (by
     have hz:(w2.setCell ⟨rb,1,none⟩ (.int .i64 (i+1))).heap.size=w2.heap.size:=by simp[World.setCell]
     rw[hX,hN,hz];exact⟨qd.alloc (by rw[hz];exact Nat.le_refl _) _,rfl⟩)
   have HNX:=qb bN.lt;clear hX hN hr3 bN c1 f1 hrz hrn HST;refine HT3.out.mono ?_;rintro e w4 ⟨rfl,hb4⟩;have HM4:=qb (qfr (qh l (i+1)) [40] w4);rw[←qgz,HP.out]at HM4;have HB4:=qb hb4;clear hb4;unfold tkA at HM4 ⊢;go_wp2_with fail;refine HM4.out.mono ?_;rintro e w5 ⟨rfl,hb5⟩;have hb45:=HB4.out.trans (hb5.mono HB4.out.size);have hr5:=(HR3.out.on hb45).mono (A':=fun b=>b=N) fun b q=>Or.inl q;have bN5:=HBN.out.on hb45;have n0:=bN5.cell 0;have n1:=bN5.cell 1;have n2:=bN5.cell 2;have n3:=bN5.cell 3;have n4:=bN5.cell 4;have g0:=bN5.frozen 0;simp only[qg]at n0 n1 n2 n3 n4
   cases bp with
   |false=>
     have HPUT:=qb (qbB (.mk 12 na 0 nm []) (.slice none 0 0) hr5 (by have:=HL.out;omega) HD0.out (nt.ql.nil_ _ _));clear hb5 hb45 hr5 bN5;go_wp2_with fail;refine HPUT.out.mono ?_;rintro e w6 ⟨rfl,hr6,_⟩;have HR6:=qb hr6.non;clear hr6;go_wp2_with fail;go_ret;rw[HO.out,if_neg (by simp)]
     exact⟨rfl,HR6.out⟩
   |true=>
     have hd17:Hd (.mk 17 na 0 nm []):=⟨by show I64 17;unfold I64;omega,HD0.out.2.1,HD0.out.2.2.1,HD0.out.2.2.2⟩
     have HS:Hid (Rd l v w0 rb (fun _=>False) (i+1) wants false (rdL G) G (w5.setCell ⟨N,0,none⟩ (.int .i64 17))):=qb (by
       obtain⟨q1,q2⟩:=HBX.out;refine HR2s.out.on_ ?_;rw[←q2];exact(q1.trans (hb45.mono (by have:=HNX.out;omega))).setCell (p:=⟨N,0,none⟩) qe _)
     have HARG:=qb (qe6 17 na nm HS.out HL.out HG.out hd17 (by decide));clear hb5 hb45 hr5 bN5;go_wp2_with fail;refine HARG.out.mono ?_;intro e w7 hp7
     obtain⟨b7,hb7⟩:∃b7,e=.returned (.bool b7):=by
       unfold qw at hp7;split at hp7
       · exact⟨_,hp7.1⟩
       · exact⟨_,hp7.1⟩
       · exact⟨_,hp7.1⟩
     subst hb7;have HP7:=qb hp7;clear hp7;go_wp2_with fail;go_ret;rw[HO.out,if_pos (by simp)];exact HP7.out
theorem qkh(h:Rd l v w0 rb A i wants false (rdL G) G w)(hl:(rdL G).length≤1048580)(hG:G.length≤1048580):
   Calls Tryz.prog 147 #[.pointer (some ⟨rb,0,none⟩)] w (qw l v w0 rb (qfd l i G)):=by
 have e:=qlP l i G
 cases ha:qb8 (qh l i)with
 |none=>
   rw[ha]at e;rw[e]
   exact qiK h ha
 |some n=>
   rw[ha]at e;refine qiM n (decide (n.kind=12)) (isM l (i+1) [40]) _ (e.trans ?_) h ha rfl rfl hl hG;simp
end Go.Proofs.YtdndfifkfjoffaaGreatDoor.pm.em
namespace Go.Proofs.YtdndfifkfjoffaaGreatDoor.pm.em
open Go.RowKit Go.Shelf wd lx nt ne pm mem
open vt (I64 Typ)
attribute [local go_sem] Oper.semAt_some
abbrev TI:={x:Int // I64 x}
def tiV(zs:List TI):List Value:=zs.map fun x=>.int .i64 x.1
def z0:TI:=⟨0,by unfold I64;omega⟩
def qaH(w w':World):Prop:=∀(k:Nat) (cs:Array Value) (t:TypeId) (fr:Nat × Nat),w.heap[k]?=some (.cells cs t fr)→t≠qi→w'.heap[k]?=w.heap[k]?
theorem qaH.refl(w:World):qaH w w:=fun _ _ _ _ _ _=>rfl
theorem qaH.trans{a b c:World}(h1:qaH a b)(h2:qaH b c):qaH a c:=fun k cs t fr h ht=>by
 have e1:=h1 k cs t fr h ht;exact(h2 k cs t fr (e1.trans h) ht).trans e1
theorem qaH.put{w:World}(W:World)(l:Nat)(o o':Obj)(_:w.heap.size≤l)(h:W.heap[l]?=some o)(hc:o.isCells=false)(_:o.isWalk=false):qaH W (W.putObj l o'):=fun k cs t fr hk _=>by
 have hne:k≠l:=by
   rintro rfl;rw[hk]at h;injection h with h
   subst h;cases hc
 simp only[World.putObj,Array.getElem?_setIfInBounds];rw[if_neg (fun e=>hne e.symm)]
theorem qaH.below{B:Nat}{w w':World}(h:Below B w w')(hB:w.heap.size≤B):qaH w w':=fun k _ _ _ hk _=>h.block k (Nat.lt_of_lt_of_le (Array.getElem?_eq_some_iff.1 hk).1 hB)
theorem qaH.set{w:World}{g:Nat}{cs:Array Value}(h:Box w g qi cs)(i:Nat)(v:Value):qaH w (w.setCell ⟨g,i,none⟩ v):=fun k c t fr hk ht=>by
 refine Below.heap_setCell w ⟨g,i,none⟩ v k fun e=>ht ?_;have e2:k=g:=e;rw[e2,h]at hk;injection hk with hk
 injection hk with _ h1 _
 exact h1.symm
theorem qaH.typ{w w':World}{t:TypeId}{b:Nat}(h:qaH w w')(hb:Typ w t b)(ht:t≠qi):w'.heap[b]?=w.heap[b]?:=by
 obtain⟨cs,fr,hc⟩:=hb;exact h b cs t fr hc ht
def qdV(zs:List TI)(len k:Nat):List (Nat × TI):=(List.range k).map fun j=>(len-1-j,zs[len-1-j]?.getD z0)
theorem qj6(zs:List TI)(len k:Nat):qdV zs len (k+1)=qdV zs len k++[(len-1-k,zs[len-1-k]?.getD z0)]:=by simp[qdV,List.range_succ]
theorem qhw(zs:List TI)(len k:Nat):(qdV zs len k).length=k:=by simp[qdV]
theorem qls(n:Nat)(hn:1≤n)(l Bs b off len cap:Nat)(zs:List TI)(hlen:len≤1048576)(J Jx:List (Nat × TI)→World→Prop)
   (hY:∀pre x W,J pre W→pre.length<len→YieldAt Fence.wide (n-1) Tryz.prog l #[.int .i64 (x.1:Int),.int .i64 x.2.1] W fun e W'=>
     (e=.returned (.bool true)∧J (pre++[x]) W'∧qaH W W')∨(e=.returned (.bool false)∧Jx (pre++[x]) W'))
   (W:World)(hBs:W.cell? ⟨Bs,0,none⟩=some (.slice (some ⟨b,off,none⟩) len cap))(hBn:Typ W 126 Bs)(hbt:Typ W 3 b)(hc:∀j,j<len→W.cell? ⟨b,off+j,none⟩=some (.int .i64 (zs[j]?.getD z0).1))(h0:J [] W):
   CallsIn Fence.wide n Tryz.prog 167 #[.func (.yield l) #[] #[],.pointer (some ⟨Bs,0,none⟩)] W fun e W'=>(∃v,e=.returned v)∧
     ((∃ys,ys=qdV zs len len∧J ys W')∨(∃pre,Jx pre W')):=by
 refine callsIn_of_wp Tryz.func167 rfl trivial ?_ rfl;simp only[Tryz.ntmps167,List.size_toArray,List.length_cons,List.length_nil,Nat.reduceAdd,Nat.reduceSub,Array.replicate_succ,Array.replicate_zero,List.push_toArray,List.append_toArray,List.nil_append,List.cons_append];have hw1:IntKind.i64.wrap ((len:Int)-1)=(len:Int)-1:=IntWalk.i64_in _ (by omega)
 gi_wp2
 gi_loopw [3] (fun i wr=>∃k:Nat,k≤len∧i=.int .i64 ((len:Int)-1-k)∧J (qdV zs len k) wr∧qaH W wr)
   (fun i _=>(intOf i+1).toNat)
 case atStart=>exact⟨0,Nat.zero_le _,by simp,h0,qaH.refl _⟩
 case round=>
   obtain⟨k,hk,rfl,hJs,hnx⟩:=hrel;by_cases hlt:k<len
   · obtain⟨m,hm⟩:∃m:Nat,(len:Int)-1-k=m:=⟨len-1-k,by omega⟩;have hmk:len-1-k=m:=by omega
     rw[hm];have hcx':=(World.cell?_of_block (w:=W) (w':=wr) (a:=⟨b,off+m,none⟩) (hnx.typ hbt (by decide))).trans (hc m (by omega));have hbs':=(World.cell?_of_block (w:=W) (w':=wr) (a:=⟨Bs,0,none⟩) (hnx.typ hBn (by decide))).trans hBs;have q1:(0:Int)≤(m:Int):=by omega
     have q2:(m:Int)<(len:Int):=by omega
     have hw2:IntKind.i64.wrap ((m:Int)-1)=(m:Int)-1:=IntWalk.i64_in _ (by omega);obtain⟨fn,tmps,assign,body,hy,hR⟩:=hY _ (m,zs[m]?.getD z0) wr hJs (by rw[qhw];exact hlt)
     dsimp only at hy
     have HJ:=qb (qj6 zs len k);rw[hmk]at HJ;obtain⟨z,hz⟩:=qc (zs[m]?.getD z0);rw[←hz]at hcx' hy hR HJ;have HM:=qb hm;clear hz hm hmk hc hY hBs
     gi_wp2
     refine hR.mono ?_;rintro e W3 (⟨rfl,hJ3,hk3⟩|⟨rfl,hJx3⟩)
     · have hb3:=hnx.trans hk3
       gi_wp2
       go_roundw
       case rel=>exact⟨k+1,by omega,by have:=HM.out;rw[show(len:Int)-1-((k+1:Nat):Int)=(m:Int)-1 by omega],by rw[HJ.out];exact hJ3,hb3⟩
       case measure=>simp[intOf]
     · gi_wp2
       refine bodyPost_ret (results_none rfl _ _ _) rfl ?_;exact⟨⟨_,rfl⟩,.inr ⟨_,hJx3⟩⟩
   · obtain rfl:k=len:=by omega
     rw[show(k:Int)-1-k= -1 by omega]
     gi_wp2
     go_end0;exact⟨⟨_,rfl⟩,.inl ⟨_,rfl,hJs⟩⟩
theorem qjS(n:Nat)(l Bs:Nat)(J:List (Nat × TI)→World→Prop)(W:World)(hBs:W.cell? ⟨Bs,0,none⟩=some (.slice none 0 0))(h0:J [] W):
   CallsIn Fence.wide n Tryz.prog 167 #[.func (.yield l) #[] #[],.pointer (some ⟨Bs,0,none⟩)] W fun e W'=>(∃v,e=.returned v)∧J [] W':=by
 refine callsIn_of_wp Tryz.func167 rfl trivial ?_ rfl;simp only[Tryz.ntmps167,List.size_toArray,List.length_cons,List.length_nil,Nat.reduceAdd,Nat.reduceSub,Array.replicate_succ,Array.replicate_zero,List.push_toArray,List.append_toArray,List.nil_append,List.cons_append]
 gi_wp2
 gi_loopw [3] (fun i wr=>i=.int .i64 (-1)∧J [] wr) (fun _ _=>0)
 case atStart=>exact⟨rfl,h0⟩
 case round=>
   obtain⟨rfl,hJs⟩:=hrel
   gi_wp2
   go_end0;exact⟨⟨_,rfl⟩,hJs⟩
theorem qe8(a:Option Addr)(len cap:Nat)(w:World):
   Calls Tryz.prog 154 #[.slice a len cap] w fun e w'=>e=.returned (.func (.func 167) #[] #[.pointer (some ⟨w.heap.size,0,none⟩)])∧w'=w.alloc (.cells #[.slice a len cap] 126):=by
 have hmf:∀(fn:Fn) (first cap:Array Value) (w:World),(Instr.makeFunc fn first cap).run Tryz.prog w=.ok (.func fn first cap) w:=fun _ _ _ _=>rfl;go_enter Tryz.func154,Tryz.ntmps154
 go_wp2_with fail;go_ret;exact⟨rfl,rfl⟩
def qnZ(W:World)(sv:Value)(zs:List TI):Prop:=
 (sv=.slice none 0 0∧zs=[])∨∃b cap,sv=.slice (some ⟨b,0,none⟩) zs.length cap∧Typ W 3 b∧∀j,j<zs.length→W.cell? ⟨b,0+j,none⟩=some (.int .i64 (zs[j]?.getD z0).1)
theorem qiA(n:Nat)(hn:1≤n)(Bs:Nat)(sv:Value)(zs:List TI)(hlen:zs.length≤1048576)(w:World)(hBs:Box w Bs 126 #[sv])(hI:qnZ w sv zs):
   SeqStopsK Fence.wide n Tryz.prog 167 #[.pointer (some ⟨Bs,0,none⟩)] (fun x:Nat × TI=>#[Value.int .i64 (x.1:Int),Value.int .i64 x.2.1]) qaH (fun ys=>ys=qdV zs zs.length zs.length) (fun _=>True) zs.length w:=fun l J Jx W hW _ _ hY h0=>by
 have hb':Box W Bs 126 #[sv]:=hBs.on hW;have hc':=hb'.cell 0;rcases hI with⟨rfl,rfl⟩|⟨b,cap,rfl,⟨cs,fr,hb⟩,hcs⟩
 · exact(qjS n l Bs J W hc' h0).mono fun e W' ⟨he,hj⟩=>⟨he,.inl ⟨_,rfl,hj⟩⟩
 · have hlt:b<w.heap.size:=(Array.getElem?_eq_some_iff.1 hb).1;refine(qls n hn l Bs b 0 zs.length cap zs hlen J Jx hY W hc' ⟨_,_,hb'⟩ ⟨cs,fr,(hW.block b hlt).trans hb⟩ (fun j hj=>(hW.cell (p:=⟨b,0+j,none⟩) hlt).trans (hcs j hj)) h0).mono ?_;rintro e W' ⟨he,⟨ys,rfl,hj⟩|⟨pre,hj⟩⟩
   · exact⟨he,.inl ⟨_,rfl,hj⟩⟩
   · exact⟨he,.inr ⟨_,trivial,hj⟩⟩
theorem qlE(zs:List TI):(qdV zs zs.length zs.length).map (·.2)=zs.reverse:=by
 apply List.ext_getElem
 · simp[qdV]
 · intro i h1 h2;simp[qdV]at h1;have:zs.length-1-i<zs.length:=by omega
   simp[qdV,this]
end Go.Proofs.YtdndfifkfjoffaaGreatDoor.pm.em
namespace Go.Proofs.YtdndfifkfjoffaaGreatDoor.pm.em
open Go.RowKit wd lx nt ne pm
variable{l:List Tk}{i:Int}
def qiq(a:Int):Res→Res
 |.node n j=>.node (.mk 5 a 0 [] [n]) j
 |r=>r
def qcJ(ats:List Int)(r:Res):Res:=ats.foldr qiq r
def qei(ats:List Int)(n:NT):NT:=ats.foldr (fun a n=>.mk 5 a 0 [] [n]) n
theorem qir(ats:List Int)(a:Int)(r:Res):qcJ (ats++[a]) r=qcJ ats (qiq a r):=by simp[qcJ]
theorem qeJ:∀(ats:List Int) (n:NT) (j:Int),qcJ ats (.node n j)=.node (qei ats n) j
 |[],_,_=>rfl
 |a::ats,n,j=>by
   show qiq a (qcJ ats (.node n j))=_
   rw[qeJ ats n j];rfl
theorem qeB:∀(ats:List Int) (j:Int),qcJ ats (.no j)=.no j
 |[],_=>rfl
 |a::ats,j=>by
   show qiq a (qcJ ats (.no j))=_
   rw[qeB ats j];rfl
theorem qdd(l:List Tk)(i:Int):run l (qdC l .typ i) .typ i=some (qaV l i):=by
 obtain⟨r,h⟩:=qa2 l .typ i;unfold qaV;rw[h];rfl
theorem qeZ{f:Nat}{r:Res}(h:run l f .typ i=some r):qaV l i=r:=qeY l (qdd l i) h
theorem qfz{t:Tk}{n:NT}(h:qbI t=some n):t.kind=1∨t.kind=3:=by
 unfold qbI qaD at h;by_cases h3:t.kind=3
 · exact Or.inr h3
 · simp[h3]at h;exact Or.inl h.1
theorem qle{n:NT}(h:qbI (qh l i)=some n):qaV l i=.node n (i+1):=by
 refine qeZ (f:=1) ?_;rw[qaF];simp only[qx];have hk:=qfz h;unfold qbI at h;rcases hk with hk|hk
 · have w:∀m,qaD (qh l i) m=false:=fun m=>by unfold qaD;simp[hk]
   rw[w,w,w]at h;simp[hk]at h;rw[if_pos hk,←h]
 · rw[if_neg (by omega)];by_cases w1:qaD (qh l i) qia=true
   · rw[if_pos w1]at h;rw[if_pos (by exact w1)];injection h with h;rw[←h]
   rw[if_neg w1]at h;rw[if_neg (by exact w1)];by_cases w2:qaD (qh l i) qeH=true
   · rw[if_pos w2]at h;rw[if_pos (by exact w2)];injection h with h;rw[←h]
   rw[if_neg w2]at h;rw[if_neg (by exact w2)];by_cases w3:qaD (qh l i) qid=true
   · rw[if_pos w3]at h;rw[if_pos (by exact w3)];injection h with h;rw[←h]
   rw[if_neg w3,if_neg (by omega)]at h;cases h
theorem qfq(h:isM l i [91]=true):(qh l i).kind≠1∧∀m,pm.isW l i m=false:=by
 have hk:=qdj h;exact⟨by omega,fun m=>qbE (by omega)⟩
theorem qin(h1:isM l i [91]=true)(h2:isM l (i+1) [93]=true):qaV l i=qiq (qh l i).at_ (qaV l (i+2)):=by
 refine qeZ (f:=qdC l .typ (i+2)+1) ?_;obtain⟨hk,hw⟩:=qfq h1;rw[qaF];simp only[qx];rw[if_neg hk,if_neg (by rw[hw];decide),if_neg (by rw[hw];decide),if_neg (by rw[hw];decide),if_neg (by rw[h1];decide),if_neg (by rw[h2];decide),qdd];have he:=qT l _ _ _ _ (qdd l (i+2))
 cases ht:qaV l (i+2)with
 |node n j=>rfl
 |no j=>rfl
 |list ns j=>rw[ht]at he;simp[qej,qL.lists]at he
theorem qio(h1:isM l i [91]=true)(h2:isM l (i+1) [93]=false):qaV l i=.no (i+1):=by
 refine qeZ (f:=1) ?_;obtain⟨hk,hw⟩:=qfq h1;rw[qaF];simp only[qx];rw[if_neg hk,if_neg (by rw[hw];decide),if_neg (by rw[hw];decide),if_neg (by rw[hw];decide),if_neg (by rw[h1];decide),if_pos h2]
theorem qnV(h:qbI (qh l i)=none)(h1:isM l i [91]=false):qaV l i=.no i:=by
 refine qeZ (f:=1) ?_;rw[qaF];simp only[qx];unfold qbI at h;by_cases w1:qaD (qh l i) qia=true
 · rw[if_pos w1]at h;cases h
 rw[if_neg w1]at h;by_cases w2:qaD (qh l i) qeH=true
 · rw[if_pos w2]at h;cases h
 rw[if_neg w2]at h;by_cases w3:qaD (qh l i) qid=true
 · rw[if_pos w3]at h;cases h
 rw[if_neg w3]at h;by_cases w4:(qh l i).kind=1
 · rw[if_pos w4]at h;cases h
 rw[if_neg w4,if_neg (by exact w1),if_neg (by exact w2),if_neg (by exact w3),if_pos h1]
end Go.Proofs.YtdndfifkfjoffaaGreatDoor.pm.em

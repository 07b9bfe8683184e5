/- The package's functions. (and what it stands on) -/
import Derived.Test.YtdndfifkfjoffaaGreatDoorZat
import Derived.BigQuiet
import Derived.Test.YtdndfifkfjoffaaGreatDoorZak
import Derived.Deep.RegionHeld
import Derived.Deep.AppendLies
import Derived.OwnWalk
import Derived.Test.YtdndfifkfjoffaaGreatDoorZam
import Derived.Test.YtdndfifkfjoffaaGreatDoorZab
import Derived.Test.YtdndfifkfjoffaaGreatDoorZaa
set_option maxRecDepth 100000
set_option maxHeartbeats 4000000
namespace Go.Proofs.YtdndfifkfjoffaaGreatDoor.pm.em
open Go.RowKit wd lx nt ne pm mem
open vt (I64 qft qt qv qZ qee Typ)
variable{l:List Tk}{v:Value}{w0:World}{rb:Nat}{A A':Nat→Prop}{i j:Int}{wants over:Bool}{rs:List NT}{G:List Frm}{w w':World}
def qn0(o:Out)(w:World)(e:Ending)(w':World):Prop:=
 match o with
 |.over n j=>∃s,e=.returned (.tuple #[s,.int .i64 j,.int .i64 0])∧nt.ql (fun b=>w.heap.size≤b) w' n.kids s∧Below w.heap.size w w'
 |.no j=>e=.returned (.tuple #[.slice none 0 0,.int .i64 j,.int .i64 1])∧Below w.heap.size w w'
 |.go _=>False
def qg4(l:List Tk):Nat→MS→Out→Prop
 |0,s,o=>∃j n,s=.have_ j [] n∧o=.over n j
 |k+1,s,o=>1≤s.stk.length∧((∃s1,qD l s=.go s1∧qg4 l k s1 o)∨∃j,qD l s=.no j∧o=.no j)
theorem qhb.aruns{k:Nat}{s:MS}{n:NT}(h:qhb l 1 k s (.have_ j [] n)):qg4 l k s (.over n j):=by
 obtain⟨t,ht⟩:=qc (MS.have_ j [] n);rw[←ht]at h
 induction h with
 |refl s=>exact⟨j,n,ht,rfl⟩
 |step hd hs _ ih=>exact⟨hd,Or.inl ⟨_,hs,ih ht⟩⟩
theorem qhb.afails{k:Nat}{s s':MS}(h:qhb l 1 k s s')(hd':1≤s'.stk.length)(hs:qD l s'=.no j):qg4 l (k+1) s (.no j):=by
 induction h with
 |refl s=>exact⟨hd',Or.inr ⟨j,hs,rfl⟩⟩
 |step hd h1 _ ih=>exact⟨hd,Or.inl ⟨_,h1,ih hd' hs⟩⟩
def qg6(l:List Tk)(v:Value)(w0:World)(rb:Nat)(o:Out)(g:Nat)(ok:Value)(wr:World):Prop:=
 (∃s k,ok=.bool true∧k=g∧Hid (RdS l v w0 rb s wr)∧Hid (qe0 l s)∧Hid (qg4 l k s o))∨(∃j,ok=.bool false∧o=.no j∧Hid (∃wn ov rs G,Rd l v w0 rb (fun _=>False) j wn ov rs G wr))
theorem qem(k:Nat)(o:Out)(he:Env l v w)(hi:I64 i)(hk:(∃s1,qar l i 17 0 [] [] []=.go s1∧qe0 l s1∧qg4 l k s1 o)∨∃j,qar l i 17 0 [] [] []=.no j∧o=.no j):
   Calls Tryz.prog 118 #[v,.int .i64 i] w (qn0 o w):=by
 obtain⟨B,hB⟩:=qc w.heap.size;obtain⟨W2,hW2⟩:=qc (w.alloc (.cells #[v,.int .i64 i,.bool false,.bool false,.slice none 0 0,.slice none 0 0] RdT));have hrd:=qcB he hi false hB hW2;have HA:Hid (Calls Tryz.prog 136 #[.pointer (some ⟨B,0,none⟩),.agg #[.int .i64 17,.int .i64 0,.int .i64 0,.string ⟨#[]⟩,.slice none 0 0],.slice none 0 0] W2 (qw l v w B (qar l i 17 0 [] [] []))):=qb (qe6 17 0 [] hrd (by show 0≤1048580;omega) (by show 0≤1048580;omega) ⟨(by show I64 17;unfold I64;omega),(by show I64 0;unfold I64;omega),(by show I64 0;unfold I64;omega),(by show 0≤281474976710656;omega)⟩ (by decide));have HK:=qb hk;have HW2:=qb hW2;have HBB:=qb hB;have HEW:=qb he;have HLEN:=qb he.src.len;clear hB hW2 hrd hk he hi;obtain⟨Av,cv,rfl⟩:=HEW.out.src.lies.form;go_enter Tryz.func118,Tryz.ntmps118
 go_wp2_with (first|(rw[←HW2.out,←HBB.out]));refine HA.out.mono ?_;intro e w1 hp
 obtain⟨b,rfl,hrel⟩:∃b,e=.returned (.bool b)∧qg6 l (.slice Av l.length cv) w B o k (.bool b) w1:=by
   rcases HK.out with⟨s1,h1,h2,h3⟩|⟨j,h1,h2⟩
   · rw[h1]at hp;exact⟨true,hp.1,Or.inl ⟨s1,k,rfl,rfl,qb hp.2,qb h2,qb h3⟩⟩
   · rw[h1]at hp;exact⟨false,hp.1,Or.inr ⟨j,rfl,h2,qb hp.2⟩⟩
 have HREL:=qb hrel;clear hp hrel;go_wp2_with fail
 go_loopg [8] k (fun g vok wr=>qg6 l (.slice Av l.length cv) w B o g vok wr)
 case atStart=>exact HREL.out
 case round=>
   unfold qg6 at hrel;rcases hrel with⟨s,g1,rfl,hg1,HS,HI,HRu⟩|⟨j,rfl,hov,HRd⟩
   · cases g1 with
     |zero=>
       clear hg1;obtain⟨j,n,rfl,rfl⟩:=HRu.out;have hrd:Rd l (.slice Av l.length cv) w B (fun _=>False) j false false ([]++[n]) [] wr:=HS.out;obtain⟨vr,vo,vs,⟨_,c1,_,_,c4,c5⟩,_,hbx,hr⟩:=hrd.cells;obtain⟨Ao,co,rfl⟩:=qt hr.opn;obtain⟨gg,c,xs,s,rfl,rfl,hxl,hgB,hgl,hgc,hdn,hkn,hxn,⟨e0,e1,e2,e3,e4⟩,hfg⟩:=qfl (rs:=[]) hr;obtain⟨As,cs,rfl,_⟩:=hkn.form;change wr.cell? ⟨gg,4,none⟩=_ at e4;change wr.cell? ⟨B,4,none⟩=some (.slice (some ⟨gg,0,none⟩) 1 c)at c4;change wr.cell? ⟨B,5,none⟩=some (.slice Ao 0 co)at c5;have HFIN:Hid (∀q,qn0 (.over n j) w (.returned (.tuple #[.slice As n.kids.length cs,.int .i64 j,.int .i64 0])) (wr.drewN q)):=qb fun q=>⟨_,rfl,(hkn.mono fun _ h=>h.1).carry fun b o u h hc=>⟨h,hc⟩,below_drewN hrd.low q⟩;obtain⟨nl,hnl⟩:=qc n.kids.length;rw[←hnl]at HFIN e4;clear hbx hr hxl hgB hgl hgc hdn hkn hxn hfg hnl e0 e1 e2 e3 hrd;go_wp2_with fail
       go_quiet (fail)
       go_wp2_with fail
       go_ret3
       exact HFIN.out _
     |succ g1=>
       have HG1:=qb hg1;clear hg1;obtain⟨wn,rs1,hrd⟩:=RdS.rd HS.out;obtain⟨_,_,_,⟨_,_,_,_,_,c5⟩,_,_,hr⟩:=hrd.cells;obtain⟨Ao,co,rfl⟩:=qt hr.opn;obtain⟨M,hM⟩:=qc s.stk.length;rw[←hM]at c5;have hM1:(0:Int)<(M:Int):=by have:=HRu.out.1;omega
       have HST:=qb (qij s HS.out (HI.out.small HLEN.out) HI.out.kg);clear hrd hr hM;go_wp2_with fail;refine HST.out.mono ?_;intro e w1 hp;rcases HRu.out.2 with⟨s1,h1,h2⟩|⟨j,h1,h2⟩
       · rw[h1]at hp;obtain⟨rfl,hr1⟩:=hp;have HR1:=qb hr1;have HI1:=qb (HI.out.step h1);have HU1:=qb h2;clear hr1 h1 h2 c5;go_wp2_with fail
         go_roundg g1
         case measure=>have:=HG1.out;omega
         case rel=>unfold qg6;exact Or.inl ⟨s1,g1,rfl,rfl,HR1,HI1,HU1⟩
       · rw[h1]at hp;obtain⟨rfl,hr1⟩:=hp;have HR1:=qb hr1;clear hr1 h1 c5;go_wp2_with fail
         go_roundg 0
         case measure=>have:=HG1.out;omega
         case rel=>unfold qg6;exact Or.inr ⟨j,rfl,h2,HR1⟩
   · subst hov;obtain⟨wn,ov,rs1,G1,hrd⟩:=HRd.out;obtain⟨_,_,_,⟨_,c1,_⟩,_⟩:=hrd.cells;have HLOW:=qb hrd.low;clear hrd;go_wp2_with fail
     go_quiet (fail)
     go_wp2_with fail
     go_ret3
     exact⟨rfl,below_drewN HLOW.out _⟩
theorem qnX(htr:qaV l i=.no j)(he:Env l v w)(hi:I64 i):
   Calls Tryz.prog 121 #[v,.int .i64 i] w (qha (.no j) w):=by
 obtain⟨R,hR⟩:=qc w.heap.size;obtain⟨W,hW⟩:=qc (w.alloc (.cells #[.int .i64 0,.int .i64 0,.int .i64 0,.string ⟨#[]⟩,.slice none 0 0] qi));obtain⟨B,hB⟩:=qc W.heap.size;obtain⟨W2,hW2⟩:=qc (W.alloc (.cells #[v,.int .i64 i,.bool false,.bool false,.slice none 0 0,.slice none 0 0] RdT));have hbW:Below w.heap.size w W:=by rw[hW];exact qd.alloc qe _
 have bR:Box W R qi #[.int .i64 0,.int .i64 0,.int .i64 0,.string ⟨#[]⟩,.slice none 0 0]:=by rw[hW];exact Box.new _ _ _ _ hR
 have heW:=he.on hbW;have hrd:=qcB heW hi false hB hW2;have HTY:=qb (qez hrd);rw[htr]at HTY;have HEW:=qb heW;have HBR:=qb bR;have HRW:Hid (R<W.heap.size):=qb bR.lt;have hRB:¬R=B:=by have:=bR.lt;omega
 have hBR:¬B=R:=fun e=>hRB e.symm;have HBW:=qb hbW;have HWR:Hid (w.heap.size≤R):=qb (by omega);have HW:=qb hW;have HR:=qb hR;have HW2:=qb hW2;have HBB:=qb hB;have HLEN:=qb he.src.len;clear hrd htr hR hW hB hW2 hbW bR heW he hi;obtain⟨Av,cv,rfl⟩:=HEW.out.src.lies.form;go_enter Tryz.func121,Tryz.ntmps121
 go_wp2_with (first|(rw[←HW.out,←HR.out])|(rw[←HW2.out,←HBB.out]));refine HTY.out.mono ?_;intro e w1 hp;obtain⟨rfl,hr1,_⟩:=hp;have hb3:Below w1.heap.size w1 (w1.alloc (.cells #[.int .i64 0,.int .i64 0,.int .i64 0,.string ⟨#[]⟩,.slice none 0 0] qi)):=qd.alloc qe _;have hr3:=hr1.on_ hb3;have hbR:=HBR.out.below hr3.low HRW.out;obtain⟨_,_,_,⟨_,c1,_⟩,_⟩:=hr3.cells;have HBL:=qb hr3.low;obtain⟨X,hX⟩:=qc (w1.alloc (.cells #[.int .i64 0,.int .i64 0,.int .i64 0,.string ⟨#[]⟩,.slice none 0 0] qi));rw[←hX]at hbR c1 HBL;have r0:=hbR.cell 0;have r1:=hbR.cell 1;have r2:=hbR.cell 2;have r3:=hbR.cell 3;have r4:=hbR.cell 4;simp only[qg]at r0 r1 r2 r3 r4;have gr0:=hbR.frozen 0;have gr1:=hbR.frozen 1;have gr2:=hbR.frozen 2;have gr3:=hbR.frozen 3;have gr4:=hbR.frozen 4;have HbR:=qb hbR;have HFIN:=qb (qm (HBW.out.trans (HBL.out.mono HBW.out.size)) HWR.out (.int .i64 0) (.int .i64 0) (.int .i64 0) (.string ⟨#[]⟩) (.slice none 0 0)).drew;have HX:=qb hX;clear hb3 hr3 hr1 hbR hX;unfold ZZ;go_wp2_with fail;rw[←HX.out];go_region
 all_goals go_wp2_with fail
 all_goals refine bodyPost_ret (qaK rfl rfl rfl rfl (qj HbR.out _ _ _ _ _).drew) rfl ?_
 all_goals exact⟨rfl,HFIN.out⟩
theorem qlf(n:NT)(htr:qaV l i=.node n j)(he:Env l v w)(hi:I64 i):
   Calls Tryz.prog 121 #[v,.int .i64 i] w (qha (.over n j) w):=by
 obtain⟨R,hR⟩:=qc w.heap.size;obtain⟨W,hW⟩:=qc (w.alloc (.cells #[.int .i64 0,.int .i64 0,.int .i64 0,.string ⟨#[]⟩,.slice none 0 0] qi));obtain⟨B,hB⟩:=qc W.heap.size;obtain⟨W2,hW2⟩:=qc (W.alloc (.cells #[v,.int .i64 i,.bool false,.bool false,.slice none 0 0,.slice none 0 0] RdT));have hbW:Below w.heap.size w W:=by rw[hW];exact qd.alloc qe _
 have bR:Box W R qi #[.int .i64 0,.int .i64 0,.int .i64 0,.string ⟨#[]⟩,.slice none 0 0]:=by rw[hW];exact Box.new _ _ _ _ hR
 have heW:=he.on hbW;have hrd:=qcB heW hi false hB hW2;have HTY:=qb (qez hrd);rw[htr]at HTY;have HEW:=qb heW;have HBR:=qb bR;have HRW:Hid (R<W.heap.size):=qb bR.lt;have hRB:¬R=B:=by have:=bR.lt;omega
 have hBR:¬B=R:=fun e=>hRB e.symm;have HBW:=qb hbW;have HWR:Hid (w.heap.size≤R):=qb (by omega);have HW:=qb hW;have HR:=qb hR;have HW2:=qb hW2;have HBB:=qb hB;have HLEN:=qb he.src.len;have HZW:Hid (W.heap.size≤W2.heap.size):=qb hrd.low.size;clear hrd htr hR hW hB hW2 hbW bR heW he hi;obtain⟨Av,cv,rfl⟩:=HEW.out.src.lies.form;go_enter Tryz.func121,Tryz.ntmps121
 go_wp2_with (first|(rw[←HW.out,←HR.out])|(rw[←HW2.out,←HBB.out]));refine HTY.out.mono ?_;intro e w1 hp;obtain⟨s,rfl,hk1,hd1,hr1,_,hsz⟩:=hp;obtain⟨As,cs,rfl,_⟩:=hk1.form;have HDN:=qb hd1;obtain⟨O,hO⟩:=qc w1.heap.size;obtain⟨X,hX⟩:=qc (w1.alloc (.cells #[.int .i64 n.kind,.int .i64 n.at_,.int .i64 n.num,.string ⟨n.name.toArray⟩,.slice As n.kids.length cs] qi));have hb3:Below w1.heap.size w1 X:=by rw[hX];exact qd.alloc qe _
 have hr3:=hr1.on_ hb3;have hbR:=HBR.out.below hr3.low HRW.out;have hbO:Box X O qi #[.int .i64 n.kind,.int .i64 n.at_,.int .i64 n.num,.string ⟨n.name.toArray⟩,.slice As n.kids.length cs]:=by rw[hX];exact Box.new _ _ _ _ hO
 obtain⟨_,_,_,⟨_,c1,_⟩,_⟩:=hr3.cells;have HBL:=qb hr3.low;have hRO:¬R=O:=by have:=HRW.out;have:=hr1.low.size;omega
 have hOR:¬O=R:=fun e=>hRO e.symm
 have hk3:nt.ql (fun b=>w.heap.size≤b) (five X R (.int .i64 n.kind) (.int .i64 n.at_) (.int .i64 n.num) (.string ⟨n.name.toArray⟩) (.slice As n.kids.length cs)).drew n.kids (.slice As n.kids.length cs):=by
   refine(hk1.below hb3).carry fun k o u q hc=>⟨by have h1:=q.1;have h3:=HZW.out;have h4:=HBW.out.size;omega,?_⟩
   have hne:k≠R:=fun e=>by
     have h1:=q.1;have h2:=HRW.out;have h3:=HZW.out;rw[e]at h1;omega
   exact(World.cell?_of_block (w:=X) (w':=(five X R (.int .i64 n.kind) (.int .i64 n.at_) (.int .i64 n.num) (.string ⟨n.name.toArray⟩) (.slice As n.kids.length cs)).drew) (a:=⟨k,o,none⟩) (qf6 hne)).trans hc
 have HFIN:Hid (qha (.over n j) w (.returned (.tuple #[.agg #[.int .i64 n.kind,.int .i64 n.at_,.int .i64 n.num,.string ⟨n.name.toArray⟩,.slice As n.kids.length cs],.int .i64 j,.int .i64 0])) (five X R (.int .i64 n.kind) (.int .i64 n.at_) (.int .i64 n.num) (.string ⟨n.name.toArray⟩) (.slice As n.kids.length cs)).drew):=qb ⟨_,rfl,hk3,hd1,(qm (HBW.out.trans (HBL.out.mono HBW.out.size)) HWR.out _ _ _ _ _).drew⟩;obtain⟨nl,hnl⟩:=qc n.kids.length;obtain⟨nk,hnk⟩:=qc n.kind;obtain⟨na,hna⟩:=qc n.at_;obtain⟨nn,hnn⟩:=qc n.num;obtain⟨nm,hnm⟩:=qc n.name;rw[←hnl,←hnk,←hna,←hnn,←hnm]at HFIN hbO hX ⊢;have r0:=hbR.cell 0;have r1:=hbR.cell 1;have r2:=hbR.cell 2;have r3:=hbR.cell 3;have r4:=hbR.cell 4;simp only[qg]at r0 r1 r2 r3 r4;have gr0:=hbR.frozen 0;have gr1:=hbR.frozen 1;have gr2:=hbR.frozen 2;have gr3:=hbR.frozen 3;have gr4:=hbR.frozen 4;have x0:=hbO.cell 0;have x1:=hbO.cell 1;have x2:=hbO.cell 2;have x3:=hbO.cell 3;have x4:=hbO.cell 4;simp only[qg]at x0 x1 x2 x3 x4;have y0:=hbO.frozen 0;have y1:=hbO.frozen 1;have y2:=hbO.frozen 2;have y3:=hbO.frozen 3;have y4:=hbO.frozen 4;have HbR:=qb hbR;have HX:=qb hX;have HOO:=qb hO;clear hb3 hr3 hr1 hbR hbO hX hO hk1 hk3 hd1 hsz HDN hnl hnk hna hnn hnm;go_wp2_with (first|(rw[←HX.out,←HOO.out]));go_region
 all_goals go_wp2_with fail
 all_goals refine bodyPost_ret (qaK rfl rfl rfl rfl (qj HbR.out _ _ _ _ _).drew) rfl ?_
 all_goals exact HFIN.out
end Go.Proofs.YtdndfifkfjoffaaGreatDoor.pm.em
namespace Go.Proofs.YtdndfifkfjoffaaGreatDoor.pm
open Go.RowKit wd lx nt ne mem
open vt (I64 qt)
def LD(w:World):Prop:=wd.LD w
theorem LD.on{w w':World}(h:LD w)(hb:Below w.heap.size w w'):LD w':=wd.LD.on h hb
structure qcP(l:List Tk):Prop where
 good:qm2 l
 txt:∀i,(qh l i).text.length≤1048576
def qdT(r:Res)(w:World)(e:Ending)(w':World):Prop:=
 match r with
 |.node n j=>∃s,e=.returned (.tuple #[.agg #[.int .i64 n.kind,.int .i64 n.at_,.int .i64 n.num,.string ⟨n.name.toArray⟩,s],.int .i64 j,.int .i64 0])∧nt.ql (fun _=>True) w' n.kids s∧Hd n∧Below w.heap.size w w'
 |.no j=>e=.returned (.tuple #[.agg ZZ,.int .i64 j,.int .i64 1])∧Below w.heap.size w w'
 |.list _ _=>False
def qoa(r:Res)(w:World)(e:Ending)(w':World):Prop:=
 match r with
 |.list ns j=>∃s,e=.returned (.tuple #[s,.int .i64 j,.int .i64 0])∧nt.ql (fun _=>True) w' ns s∧Below w.heap.size w w'
 |.no j=>∃A c,e=.returned (.tuple #[.slice A 0 c,.int .i64 j,.int .i64 1])∧Below w.heap.size w w'
 |.node _ _=>False
def qcK(r:Res)(w:World)(e:Ending)(w':World):Prop:=
 match r with
 |.node n j=>∃s,e=.returned (.tuple #[.agg #[.int .i64 n.kind,.int .i64 n.at_,.int .i64 n.num,.string ⟨n.name.toArray⟩,s],.int .i64 j,.int .i64 0])∧nt.ql (fun b=>w.heap.size≤b) w' n.kids s∧Hd n∧Below w.heap.size w w'
 |.no j=>e=.returned (.tuple #[.agg ZZ,.int .i64 j,.int .i64 1])∧Below w.heap.size w w'
 |.list _ _=>False
def qe3(r:Res)(w:World)(e:Ending)(w':World):Prop:=
 match r with
 |.list ns j=>∃s,e=.returned (.tuple #[s,.int .i64 j,.int .i64 0])∧nt.ql (fun b=>w.heap.size≤b) w' ns s∧Below w.heap.size w w'
 |.no j=>∃A c,e=.returned (.tuple #[.slice A 0 c,.int .i64 j,.int .i64 1])∧Below w.heap.size w w'
 |.node _ _=>False
theorem qen{l:List Tk}{v:Value}{w:World}(i:Int)(hs:Src l v w)(hf:qcP l)(hi:I64 i)(hL:LD w):∃f r,run l f (.lev 1) i=some r∧Calls Tryz.prog 90 #[v,.int .i64 i] w (qcK r w):=by
 obtain⟨f,r,hr,hsim⟩:=em.qhA l i;refine⟨f,r,hr,?_⟩;have he:em.Env l v w:=⟨hs,hf.good,hf.txt,hL⟩
 cases r with
 |node n j=>
   obtain⟨G,n',h1,h2⟩:=hsim;obtain⟨k,hk⟩:=h1.runs h2 (fun s e=>by cases e)
   exact em.qfZ k _ he hi hk
 |no j=>
   obtain⟨s',h1,_,h3⟩:=hsim;obtain⟨k,hk⟩:=h1.runs h3 (fun s e=>by cases e)
   exact em.qfZ k _ he hi hk
 |list ns j=>exact hsim.elim
theorem qe7{l:List Tk}{i:Int}{s:em.MS}(h:em.qar l i 17 0 [] [] []=.go s):em.qe0 l s:=by
 have h0:0≤i:=by
   by_cases h1:isM l i [40]=true
   · exact(qu h1).1
   · unfold em.qar at h;rw[if_neg h1]at h;cases h
 obtain⟨k1,k2,k3,k4⟩:=em.qe5 (l:=l) (G:=[]) (p:=i) (a:=0) (nm:=[]) (ks:=[]) (k:=17) (by decide) (Nat.zero_le _) (fun f hf=>by cases hf) h0 (by simp) s h;exact Or.inr ⟨i,k1,k4,by simpa [em.cnt]using k2,k3⟩
theorem qfW{l:List Tk}{v:Value}{w:World}(i:Int)(hs:Src l v w)(hf:qcP l)(hi:I64 i)(hL:LD w):∃f r,run l f .args i=some r∧Calls Tryz.prog 118 #[v,.int .i64 i] w (qe3 r w):=by
 obtain⟨f,r,hr,hsim⟩:=em.qlr l i;refine⟨f,r,hr,?_⟩;have he:em.Env l v w:=⟨hs,hf.good,hf.txt,hL⟩
 cases r with
 |list ns j=>
   obtain⟨s1,h1,h2⟩:=hsim;obtain⟨k,hk⟩:=h2.walk
   exact em.qem k (.over (.mk 17 0 0 [] ns) j) he hi (Or.inl ⟨s1,h1,qe7 h1,hk.aruns⟩)
 |no j=>
   rcases hsim with h|⟨s1,h1,s',h2,h3,h4⟩
   · exact(em.qem 0 (.no j) he hi (Or.inr ⟨j,h,rfl⟩)).mono fun e w' q=>⟨none,0,q.1,q.2⟩
   · obtain⟨k,hk⟩:=h2.walk
     exact(em.qem (k+1) (.no j) he hi (Or.inl ⟨s1,h1,qe7 h1,hk.afails h3 h4⟩)).mono fun e w' q=>⟨none,0,q.1,q.2⟩
 |node n j=>exact hsim.elim
theorem qfY{l:List Tk}{v:Value}{w:World}(i:Int)(hs:Src l v w)(hf:qcP l)(hi:I64 i)(hL:LD w):∃f r,run l f .typ i=some r∧Calls Tryz.prog 121 #[v,.int .i64 i] w (qcK r w):=by
 refine⟨_,_,em.qdd l i,?_⟩;have he:em.Env l v w:=⟨hs,hf.good,hf.txt,hL⟩;have hen:=qT _ _ _ _ _ (em.qdd l i)
 cases h:em.qaV l i with
 |node n j=>exact em.qlf n h he hi
 |no j=>exact em.qnX h he hi
 |list ns j=>rw[h]at hen;simp[qej,qL.lists]at hen
theorem qcK.any{r:Res}{w:World}{e:Ending}{w':World}(h:qcK r w e w'):qdT r w e w':=by
 cases r with
 |node n j=>obtain⟨s,h1,h2,h3⟩:=h;exact⟨s,h1,h2.mono fun _ _=>trivial,h3⟩
 |no j=>exact h
 |list ns j=>exact h
theorem qe3.any{r:Res}{w:World}{e:Ending}{w':World}(h:qe3 r w e w'):qoa r w e w':=by
 cases r with
 |node n j=>exact h
 |no j=>exact h
 |list ns j=>obtain⟨s,h1,h2,h3⟩:=h;exact⟨s,h1,h2.mono fun _ _=>trivial,h3⟩
end Go.Proofs.YtdndfifkfjoffaaGreatDoor.pm

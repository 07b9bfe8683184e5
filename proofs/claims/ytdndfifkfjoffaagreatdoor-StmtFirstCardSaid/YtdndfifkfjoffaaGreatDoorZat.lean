/- The package's functions Expr and Type. (and what it stands on) -/
import Derived.Test.YtdndfifkfjoffaaGreatDoorZak
import Derived.Test.YtdndfifkfjoffaaGreatDoorZas
import Derived.Test.YtdndfifkfjoffaaGreatDoorZah
import Derived.Test.YtdndfifkfjoffaaGreatDoorZaa
set_option maxRecDepth 100000
set_option maxHeartbeats 4000000
namespace Go.Proofs.YtdndfifkfjoffaaGreatDoor.pm.em
open Go.RowKit wd lx nt ne pm mem
variable{l:List Tk}{i j i0:Int}{G:List Frm}
def KG(G:List Frm):Prop:=∀f∈G,f≠.brk→f.node.kind≠0
def MS.sz:MS→Nat
 |.want _ G=>G.length+cnt G
 |.have_ _ G _=>G.length+cnt G+1
def MS.pos:MS→Int
 |.want i _=>i
 |.have_ i _ _=>i
structure Inv(l:List Tk)(i0:Int)(s:MS):Prop where
 kg:KG s.stk
 low:0≤i0
 sz:(s.sz:Int)≤s.pos-i0
 pos:s.pos≤l.length
theorem Inv.small{s:MS}(h:Inv l i0 s)(hl:l.length≤1048576):s.sz≤1048576:=by
 have h1:=h.low;have h2:=h.sz;have h3:=h.pos;omega
theorem qco{t:Int}:∀(G:List Frm) (n:NT),(qn t G n).1.length+cnt (qn t G n).1≤G.length+cnt G
 |[],n=>Nat.le_refl _
 |f::G,n=>by
   by_cases h1:t≤f.bind
   · rw[show qn t (f::G) n=qn t G (f.close n) from if_pos h1];refine Nat.le_trans (qco G _) ?_;rw[List.length_cons,show cnt (f::G)=cnt G+f.kids.length from rfl];omega
   · rw[show qn t (f::G) n=(f::G,n) from if_neg h1];exact Nat.le_refl _
theorem qcG{t:Int}:∀(G:List Frm) (n:NT) (f:Frm),f∈(qn t G n).1→f∈G
 |[],n,f,h=>h
 |g::G,n,f,h=>by
   by_cases h1:t≤g.bind
   · rw[show qn t (g::G) n=qn t G (g.close n) from if_pos h1]at h;exact List.mem_cons_of_mem _ (qcG G _ f h)
   · rw[show qn t (g::G) n=(g::G,n) from if_neg h1]at h;exact h
theorem KG.settled{t:Int}{n:NT}(h:KG G):KG (qn t G n).1:=fun f hf=>h f (qcG G n f hf)
theorem KG.cons{f:Frm}(h:KG G)(hf:f≠.brk→f.node.kind≠0):KG (f::G):=fun g hg=>by
 rcases List.mem_cons.1 hg with rfl|hg
 · exact hf
 · exact h g hg
theorem KG.tail{f:Frm}(h:KG (f::G)):KG G:=fun g hg=>h g (List.mem_cons_of_mem _ hg)
def qaW(l:List Tk)(z:Nat)(p:Int)(o:Out):Prop:=
 ∀s,o=.go s→KG s.stk∧(s.sz:Int)≤(z:Int)+(s.pos-p)∧s.pos≤l.length∧0≤p
theorem qaW.no(z:Nat)(p j:Int):qaW l z p (.no j):=fun s h=>by cases h
theorem qaW.over(z:Nat)(p j:Int)(n:NT):qaW l z p (.over n j):=fun s h=>by cases h
theorem qaW.go{z:Nat}{p:Int}{s:MS}(h1:KG s.stk)(h2:(s.sz:Int)≤(z:Int)+(s.pos-p))(h3:s.pos≤l.length)(h4:0≤p):qaW l z p (.go s):=fun s' e=>by
 injection e with e
 subst e;exact⟨h1,h2,h3,h4⟩
theorem qe5{k a p:Int}{nm:List UInt8}{ks:List NT}(hk:k≠0)(hks:ks.length≤1)(hG:KG G)(hp:0≤p)(hpi:p+ks.length≤i):qaW l (G.length+cnt G) p (qar l i k a nm ks G):=by
 unfold qar;by_cases h1:isM l i [40]=true
 · have hi:=qu h1;rw[if_pos h1];by_cases h2:isM l (i+1) [41]=true
   · have hi2:=qu h2;rw[if_pos h2];exact qaW.go hG (by show((G.length+cnt G+1:Nat):Int)≤((G.length+cnt G:Nat):Int)+(i+2-p);omega) (by show i+2≤_;omega) hp
   · rw[if_neg h2];refine qaW.go (hG.cons fun _=>hk) ?_ (by show i+1≤_;omega) hp;show(((Frm.arg k a nm ks::G).length+cnt (Frm.arg k a nm ks::G):Nat):Int)≤((G.length+cnt G:Nat):Int)+(i+1-p)
     rw[List.length_cons,show cnt (Frm.arg k a nm ks::G)=cnt G+ks.length from rfl];omega
 · rw[if_neg h1];exact qaW.no _ _ _
theorem qhn{k a p:Int}(hk:k≠0)(hG:KG G)(hp:0≤p)(hpi:p≤i):qaW l (G.length+cnt G) p (qaO l i k a G):=by
 unfold qaO;by_cases h:(qh l i).kind=1
 · rw[if_pos h];exact qe5 hk (Nat.zero_le _) hG hp (by simp;omega)
 · rw[if_neg h];exact qaW.no _ _ _
theorem qnW{n:NT}(h:qaV l i=.node n j):i≤j:=by
 obtain⟨r,hr⟩:=qa2 l .typ i;have e:qaV l i=r:=by unfold qaV;rw[hr];rfl
 rw[e]at h;subst h;exact qbS (qT l _ .typ i _ hr)
theorem qjT(hG:KG G):qaW l (G.length+cnt G) i (qJ l i G):=by
 have hw:∀m,pm.isW l i m=true→0≤i∧i<(l.length:Int):=fun m h=>qQ h;unfold qJ;by_cases h1:isM l i [40]=true
 · have hi:=qu h1;rw[if_pos h1];exact qaW.go (hG.cons fun e=>absurd rfl e) (by show(((Frm.brk::G).length+cnt (Frm.brk::G):Nat):Int)≤((G.length+cnt G:Nat):Int)+(i+1-i);rw[List.length_cons,show cnt (Frm.brk::G)=cnt G from rfl];omega) (by show i+1≤_;omega) hi.1
 rw[if_neg h1];by_cases h2:isM l i [45]=true
 · have hi:=qu h2;rw[if_pos h2];exact qaW.go (hG.cons fun _=>by show(15:Int)≠0;decide) (by show(((Frm.un (qh l i).at_ 2::G).length+cnt (Frm.un (qh l i).at_ 2::G):Nat):Int)≤((G.length+cnt G:Nat):Int)+(i+1-i);rw[List.length_cons,show cnt (Frm.un (qh l i).at_ 2::G)=cnt G from rfl];omega) (by show i+1≤_;omega) hi.1
 rw[if_neg h2];by_cases h3:isM l i [33]=true
 · have hi:=qu h3;rw[if_pos h3];exact qaW.go (hG.cons fun _=>by show(15:Int)≠0;decide) (by show(((Frm.un (qh l i).at_ 14::G).length+cnt (Frm.un (qh l i).at_ 14::G):Nat):Int)≤((G.length+cnt G:Nat):Int)+(i+1-i);rw[List.length_cons,show cnt (Frm.un (qh l i).at_ 14::G)=cnt G from rfl];omega) (by show i+1≤_;omega) hi.1
 rw[if_neg h3];by_cases h4:pm.isW l i qec=true
 · rw[if_pos h4];exact qhn (by decide) hG (hw _ h4).1 (by omega)
 rw[if_neg h4];by_cases h5:pm.isW l i qgP=true
 · rw[if_pos h5]
   cases ht:qaV l (i+1)with
   |node n j=>
     have:=qnW ht
     exact qe5 (by decide) qe hG (hw _ h5).1 (by simp;omega)
   |no j=>exact qaW.no _ _ _
   |list ns j=>exact qaW.no _ _ _
 rw[if_neg h5];have one:∀n,0≤i∧i<(l.length:Int)→qaW l (G.length+cnt G) i (.go (.have_ (i+1) G n)):=fun n hi=>qaW.go hG (by show((G.length+cnt G+1:Nat):Int)≤((G.length+cnt G:Nat):Int)+(i+1-i);omega) (by show i+1≤_;omega) hi.1;by_cases h6:(qh l i).kind=2
 · rw[if_pos h6];exact one _ (qC (by omega))
 rw[if_neg h6];by_cases h7:pm.isW l i qb4=true
 · rw[if_pos h7];exact one _ (hw _ h7)
 rw[if_neg h7];by_cases h8:pm.isW l i qbu=true
 · rw[if_pos h8];exact one _ (hw _ h8)
 rw[if_neg h8];by_cases h9:(qh l i).kind=1
 · rw[if_pos h9];by_cases h10:isM l (i+1) [40]=true
   · rw[if_pos h10];exact qhn (by decide) hG (qC (l:=l) (i:=i) (by omega)).1 (by omega)
   · rw[if_neg h10];exact one _ (qC (by omega))
 · rw[if_neg h9];exact qaW.no _ _ _
theorem qf8:∀(p:List Frm × NT),KG p.1→qaW l (p.1.length+cnt p.1+1) i (qet l i p)
 |([],n),_=>qaW.over _ _ _ _
 |(f::G,n),hG=>by
   rw[qbU];by_cases h:f.many=true∧isM l i [44]=true
   · have hi:=qu h.2;rw[if_pos h]
     cases f with
     |arg k a nm ks=>
       refine qaW.go ((KG.tail hG).cons fun _=>hG (.arg k a nm ks) (List.mem_cons_self ..) (fun e=>by cases e)) ?_ (by show i+1≤_;omega) hi.1;show(((Frm.arg k a nm (ks++[n])::G).length+cnt (Frm.arg k a nm (ks++[n])::G):Nat):Int)≤(((Frm.arg k a nm ks::G).length+cnt (Frm.arg k a nm ks::G)+1:Nat):Int)+(i+1-i)
       rw[List.length_cons,List.length_cons,show cnt (Frm.arg k a nm (ks++[n])::G)=cnt G+(ks++[n]).length from rfl,show cnt (Frm.arg k a nm ks::G)=cnt G+ks.length from rfl,List.length_append,List.length_singleton]
       omega
     |brk=>exact absurd h.1 (by simp[Frm.many])
     |un a s=>exact absurd h.1 (by simp[Frm.many])
     |bin a s b x=>exact absurd h.1 (by simp[Frm.many])
     |idx a x=>exact absurd h.1 (by simp[Frm.many])
   · rw[if_neg h];by_cases h2:isM l i f.shut=true
     · have hi:=qu h2;rw[if_pos h2];refine qaW.go (KG.tail hG) ?_ (by show i+1≤_;omega) hi.1;show((G.length+cnt G+1:Nat):Int)≤(((f::G).length+cnt (f::G)+1:Nat):Int)+(i+1-i)
       rw[List.length_cons,show cnt (f::G)=cnt G+f.kids.length from rfl];omega
     · rw[if_neg h2];exact qaW.no _ _ _
theorem qaW.mono{z z':Nat}{p:Int}{o:Out}(h:qaW l z p o)(hz:z≤z'):qaW l z' p o:=fun s e=>by
 obtain⟨h1,h2,h3,h4⟩:=h s e;exact⟨h1,by omega,h3,h4⟩
theorem qm3(h:qH l i≠0):0≤i∧i<(l.length:Int):=qC fun e0=>by
 refine h ?_;unfold qH;rw[show sgn (qh l i)=0 from by unfold sgn;rw[if_neg (by omega)]];rfl
theorem qmL:∀(s:MS),KG s.stk→qaW l s.sz s.pos (qD l s)
 |.want i G,hG=>qjT hG
 |.have_ i G n,hG=>by
   have hG:KG G:=hG;show qaW l (G.length+cnt G+1) i (qD l (.have_ i G n))
   rw[qD];by_cases h1:isM l i [91]=true
   · have hi:=qu h1;rw[if_pos h1];exact qaW.go (hG.cons fun _=>by show(13:Int)≠0;decide) (by show(((Frm.idx (qh l i).at_ n::G).length+cnt (Frm.idx (qh l i).at_ n::G):Nat):Int)≤((G.length+cnt G+1:Nat):Int)+(i+1-i);rw[List.length_cons,show cnt (Frm.idx (qh l i).at_ n::G)=cnt G+1 from rfl];omega) (by show i+1≤_;omega) hi.1
   rw[if_neg h1];by_cases h2:isM l i [46]=true
   · have hi:=qu h2;rw[if_pos h2];by_cases h3:(qh l (i+1)).kind=1
     · have hi2:=qC (l:=l) (i:=i+1) (by omega);rw[if_pos h3];exact qaW.go hG (by show((G.length+cnt G+1:Nat):Int)≤((G.length+cnt G+1:Nat):Int)+(i+2-i);omega) (by show i+2≤_;omega) hi.1
     · rw[if_neg h3];exact qaW.no _ _ _
   rw[if_neg h2];by_cases hb:qH l i=0
   · rw[if_pos hb];exact(qf8 _ hG.settled).mono (by have:=qco (t:=1) G n;omega)
   rw[if_neg hb];have hi:=qm3 hb;have e1:=qco (t:=qH l i+1) G n;have k1:KG (qn (qH l i+1) G n).1:=hG.settled;obtain⟨p,hp⟩:=qc (qn (qH l i+1) G n);rw[←hp]at e1 k1 ⊢;obtain⟨G1,n1⟩:=p
   dsimp only at e1 k1 ⊢
   by_cases h3:qH l i=3∧qan G1=3
   · rw[if_pos h3];exact(qf8 _ k1.settled).mono (by have:=qco (t:=1) G1 n1;omega)
   rw[if_neg h3];have e2:=qco (t:=qH l i) G1 n1;have k2:KG (qn (qH l i) G1 n1).1:=k1.settled;obtain⟨q,hq⟩:=qc (qn (qH l i) G1 n1);rw[←hq]at e2 k2 ⊢;obtain⟨G2,n2⟩:=q
   dsimp only at e2 k2 ⊢
   refine qaW.go (k2.cons fun _=>by show(16:Int)≠0;decide) ?_ (by show i+1≤_;omega) hi.1;show(((Frm.bin (qh l i).at_ (sgn (qh l i)) (qH l i) n2::G2).length+cnt (Frm.bin (qh l i).at_ (sgn (qh l i)) (qH l i) n2::G2):Nat):Int)≤((G.length+cnt G+1:Nat):Int)+(i+1-i)
   rw[List.length_cons,show cnt (Frm.bin (qh l i).at_ (sgn (qh l i)) (qH l i) n2::G2)=cnt G2+1 from rfl];omega
def qe0(l:List Tk)(s:MS):Prop:=(s.sz=0∧KG s.stk)∨∃i0,Inv l i0 s
theorem qe0.small{s:MS}(h:qe0 l s)(hl:l.length≤1048576):s.sz≤1048579:=by
 rcases h with⟨h,_⟩|⟨i0,h⟩
 · omega
 · have:=h.small hl;omega
theorem qe0.kg{s:MS}(h:qe0 l s):KG s.stk:=by
 rcases h with⟨_,h⟩|⟨i0,h⟩
 · exact h
 · exact h.kg
theorem qe0.step{s s1:MS}(h:qe0 l s)(hs:qD l s=.go s1):qe0 l s1:=by
 obtain⟨k1,k2,k3,k4⟩:=qmL s h.kg s1 hs;rcases h with⟨h,_⟩|⟨i0,h⟩
 · exact Or.inr ⟨s.pos,k1,k4,by omega,k3⟩
 · have h1:=h.sz;exact Or.inr ⟨i0,k1,h.low,by omega,k3⟩
def qfN(l:List Tk):Nat→MS→Out→Prop
 |0,_,_=>False
 |k+1,s,o=>(∃s1,qD l s=.go s1∧qfN l k s1 o)∨(qD l s=o∧∀s1,o≠.go s1)
theorem qV.runs{d:Nat}{s s':MS}{o:Out}(h:qV l d s s')(ho:qD l s'=o)(hn:∀s1,o≠.go s1):∃k,qfN l k s o:=by
 induction h with
 |refl s=>exact⟨1,Or.inr ⟨ho,hn⟩⟩
 |step _ hs _ ih=>
   obtain⟨k,hk⟩:=ih ho;exact⟨k+1,Or.inl ⟨_,hs,hk⟩⟩
inductive qhb(l:List Tk)(d:Nat):Nat→MS→MS→Prop where
 |refl (s:MS):qhb l d 0 s s
 |step {s s1 s2:MS} {k:Nat}:d≤s.stk.length→qD l s=.go s1→qhb l d k s1 s2→qhb l d (k+1) s s2
theorem qV.walk{d:Nat}{s s':MS}(h:qV l d s s'):∃k,qhb l d k s s':=by
 induction h with
 |refl s=>exact⟨0,.refl _⟩
 |step hd hs _ ih=>
   obtain⟨k,hk⟩:=ih;exact⟨k+1,.step hd hs hk⟩
end Go.Proofs.YtdndfifkfjoffaaGreatDoor.pm.em
namespace Go.Proofs.YtdndfifkfjoffaaGreatDoor.pm.em
open Go.RowKit wd lx nt ne pm mem
open vt (I64 qft qt qv qZ qee Typ)
variable{l:List Tk}{v:Value}{w0:World}{rb:Nat}{A A':Nat→Prop}{i j:Int}{wants over:Bool}{rs:List NT}{G:List Frm}{w w':World}
theorem qf7(n:NT)(h:Rd l v w0 rb (fun _=>False) i false false (rdL G++[n]) G w)(hl:(rdL G).length≤1048579)(hG:G.length≤1048580)(hk:KG G):
   Calls Tryz.prog 150 #[.pointer (some ⟨rb,0,none⟩)] w (qw l v w0 rb (qet l i (qn 1 G n))):=by
 have hl0:=qbL (n:=n) hl;have hr:=qbj (t:=1) G n;have hm:=qcG (t:=1) G n
 cases hs:qn 1 G n with
 |mk G1 m=>
   rw[hs]at hr hm
   cases G1 with
   |nil=>exact qkv n h hl0 hG m hs
   |cons f G2=>
     have hl2:(rdL (f::G2)++[m]).length≤1048580:=qbL (Nat.le_trans hr hl);have hkf:=hk f (hm f (List.mem_cons_self ..));rw[qbU];cases hma:f.many
     · rw[if_neg (by simp)];cases hu:isM l i f.shut
       · rw[if_neg (by simp)];exact qgC n f G2 m hs hma hu h hl0 hG hl2 hkf
       · rw[if_pos rfl];exact qfn n f G2 m hs hma hu h hl0 hG hl2 hkf
     · cases hc:isM l i [44]
       · rw[if_neg (by simp)];cases hu:isM l i f.shut
         · rw[if_neg (by simp)];exact qfO n f G2 m hs hma hc hu h hl0 hG hl2 hkf
         · rw[if_pos rfl];exact qeM n f G2 m hs hma hc hu h hl0 hG hl2 hkf
       · rw[if_pos (by simp)];exact qhU n f G2 m hs hma hc h hl0 hG hl2 hkf
theorem qlU(n:NT)(h1:isM l i [91]=true)(h:Rd l v w0 rb (fun _=>False) i false false (rdL G++[n]) G w)(hl:(rdL G).length≤1048579)(hG:G.length≤1048580):
   Calls Tryz.prog 134 #[.pointer (some ⟨rb,0,none⟩)] w (qw l v w0 rb (Out.go (.want (i+1) (.idx (qh l i).at_ n::G)))):=by
 have HR:=qb h;have HC:=qb (qs h);have HL:=qb hl;have HG:=qb hG;have HFA:=qb (h.env.src.fair i);have hfi:=fun w'=>qaB (qh l i) w';have H1:=qb h1;clear h1;clear h hl hG;go_enter Tryz.func134,Tryz.ntmps134
 go_wp2_with fail;refine HC.out.mono ?_;rintro e w1 ⟨rfl,hb1⟩;unfold tkA;have HB1:=qb hb1;have HR1:=qb (HR.out.on_ hb1);clear hb1;have HT:=qb (qak [91] HR1.out H1.out);go_wp2_with fail;refine HT.out.mono ?_;rintro e w2 ⟨rfl,hr2,_⟩;obtain⟨vr,vo,vs,⟨_,_,_,_,c4,c5⟩,hf,hbx,hr⟩:=hr2.cells;obtain⟨Ar,cr,rfl⟩:=qt hr.own;obtain⟨Ao,co,rfl⟩:=qt hr.opn;have f5:=hf 5;have f2:=hf 2;have hrz:rb<w2.heap.size:=hbx.lt;obtain⟨F,hF⟩:=qc (cnt G);obtain⟨M,hM⟩:=qc G.length;obtain⟨a,ha⟩:=qc ((qh l i).at_);have hNl:(rdL G++[n]).length=F+1:=by rw[List.length_append,qaU,hF];rfl
 have hFl:F≤1048580:=by have:=HL.out;rw[qaU,←hF]at this;omega
 have hMl:M≤1048580:=by rw[hM];exact HG.out
 rw[hNl]at c4;rw[←hM]at c5;have x3:IntKind.i64.wrap ((F:Int)+1-1)=F:=by rw[IntWalk.i64_in _ (by omega)];omega
 have x4:IntKind.i64.wrap (F:Int)=F:=IntWalk.i64_in _ (by omega);have hcs:[Value.int .i64 13,.int .i64 a,.int .i64 0,.string ⟨#[]⟩,.slice none 0 0,.int .i64 (F:Int),.int .i64 0,.string ⟨#[93]⟩,.bool false]=qdM G (.idx (qh l i).at_ n):=by show _=qdM G _;rw[hF,ha];rfl
 have HST:Hid (∀V w3 vo',Below w2.heap.size w2 V→w3.ownsRow w0.heap.size BgT 9 vo' (M+1) (qag G++[Value.int .i64 13,.int .i64 a,.int .i64 0,.string ⟨#[]⟩,.slice none 0 0,.int .i64 (F:Int),.int .i64 0,.string ⟨#[93]⟩,.bool false])→V.grownBy w3 (Value.slice Ao M co).ownBlock→(∀k,vo'.ownBlock=some k→(Value.slice Ao M co).ownBlock=some k∨V.heap.size≤k)→_):=qb (fun V w3 vo' hV h1 h2 h3=>qbW (wants:=false) (M:=M) (.idx (qh l i).at_ n) _ (hr2.on_ hV) (by rw[hM];exact hbx.on hV) (by rw[hM];exact⟨qv hr.own hV,hr.nods.below hV,qv hr.opn hV,hr.apr⟩) hM ⟨(by show I64 13;unfold I64;omega),HFA.out.1,(by show I64 0;unfold I64;omega),(by show 0≤281474976710656;omega)⟩ hcs h1 h2 h3);have HOw:Hid (w2.ownsRow w0.heap.size BgT 9 (.slice Ao M co) M (qag G)):=qb (by rw[hM];exact hr.opn);have HBz:Hid (w0.heap.size≤w2.heap.size):=qb hr2.low.size;obtain⟨i0,hi,hz0,hz1,hz2⟩:=info_parts qfj;have h1c:Hid (∀u∈[Value.int .i64 13,.int .i64 a,.int .i64 0,.string ⟨#[]⟩,.slice none 0 0,.int .i64 (F:Int),.int .i64 0,.string ⟨#[93]⟩,.bool false],u.oneCell'=true):=qb (by intro u hu;simp at hu;rcases hu with rfl|rfl|rfl|rfl|rfl|rfl|rfl|rfl|rfl<;>rfl);have HA:=qb ha;rw[←ha];clear hbx hr hf hr2 hF hM hNl hcs hfi ha;go_wp2_with fail
 go_region_law (first
   |(refine step_append_lies _ (by rfl) (.tmp 16) (.tmp 26) 115 (by rfl) w0.heap.size BgT i0 _ 9 104 Tryz.underlying115 hi hz0 hz1 hz2 (by rfl) (by decide) (.slice Ao M co) M (qag G) (by rfl) (HOw.out.alloc _) ⟨w2.heap.size,0,none⟩ 1 1 [Value.int .i64 13,.int .i64 a,.int .i64 0,.string ⟨#[]⟩,.slice none 0 0,.int .i64 (F:Int),.int .i64 0,.string ⟨#[93]⟩,.bool false] (by rfl) (by rfl) (World.news_of_block (heap_alloc_new w2 _)) h1c.out (by decide) (by unfold maxLen;omega) (by omega) (by simp;have:=HBz.out;omega) (w2.heap.size+1) (by simp) ?_;intro g cap w3 hown hgrow hat hlt;obtain⟨p1,p2,p3,p4,p5⟩:=HST.out _ w3 _ (((Below.refl w2.heap.size w2).alloc qe _).drew) hown hgrow (fun k hk=>by have e:g=k:=(by simpa [Value.ownBlock]using hk);subst e;exact hat.imp id fun h=>by rw[h];simp);have HP1:=qb p1;clear p1 hown hgrow hat))
 all_goals
   go_wp2_with fail;go_ret;refine⟨rfl,?_⟩;show Rd l v w0 rb (fun _=>False) (i+1) true false (rdL G++[n]) (.idx (qh l i).at_ n::G) _
   exact(HP1.out.1.setw true).non
theorem qiS(n:NT)(h1:isM l i [91]=false)(h2:isM l i [46]=true)(h:Rd l v w0 rb (fun _=>False) i false false (rdL G++[n]) G w)(hl:(rdL G).length≤1048579)(hG:G.length≤1048580):
   Calls Tryz.prog 134 #[.pointer (some ⟨rb,0,none⟩)] w (qw l v w0 rb (if (qh l (i+1)).kind=1 then Out.go (.have_ (i+2) G (.mk 14 (qh l i).at_ 0 (qh l (i+1)).text [n])) else Out.no (i+1))):=by
 have HR:=qb h;have HC:=qb (qs h);have HL:=qb hl;have HG:=qb hG;have HFA:=qb (h.env.src.fair i);have hfi:=fun w'=>qaB (qh l i) w';obtain⟨o,ho⟩:=qc ((if (qh l (i+1)).kind=1 then Out.go (.have_ (i+2) G (.mk 14 (qh l i).at_ 0 (qh l (i+1)).text [n])) else Out.no (i+1)));rw[←ho];have HO:=qb ho;clear ho;have H1:=qb h1;have H2:=qb h2;clear h1 h2;clear h hl hG;go_enter Tryz.func134,Tryz.ntmps134
 go_wp2_with fail;refine HC.out.mono ?_;rintro e w1 ⟨rfl,hb1⟩;unfold tkA;have HB1:=qb hb1;have HR1:=qb (HR.out.on_ hb1);clear hb1;have HT2:=qb (qM [91] HR1.out H1.out);go_wp2_with fail;refine HT2.out.mono ?_;rintro e w2 ⟨rfl,hb2⟩;have HB2:=qb (HB1.out.trans (hb2.mono HB1.out.size));have HR2:=qb (HR1.out.on_ hb2);clear hb2;have HT3:=qb (qak [46] HR2.out H2.out);go_wp2_with fail;refine HT3.out.mono ?_;rintro e w3 ⟨rfl,hr3,_⟩;have HF:=qb (qkd (decide ((qh l (i+1)).kind=1)) (qh l i).at_ n HFA.out.1 hr3 rfl (by have:=HL.out;omega))
 have HO2:Hid ((if decide ((qh l (i+1)).kind=1)=true then Out.go (.have_ (i+1+1) G (.mk 14 (qh l i).at_ 0 (qh l (i+1)).text [n])) else Out.no (i+1))=o):=qb (by
   rw[HO.out];have e:i+1+1=i+2:=by omega
   rw[e];by_cases hk:(qh l (i+1)).kind=1
   · rw[if_pos hk,if_pos (decide_eq_true hk)]
   · rw[if_neg hk,if_neg (by simpa using hk)])
 rw[HO2.out]at HF;clear hr3;go_wp2_with fail;refine HF.out.mono ?_;intro e w9 hp9;obtain⟨b9,hb9⟩:=qbr hp9;subst hb9;have HP9:=qb hp9;clear hp9;go_wp2_with fail;go_ret;exact HP9.out
theorem qhK(n:NT)(s:MS)(h1:isM l i [91]=false)(h2:isM l i [46]=false)(hb:∀w',Below w.heap.size w w'→Calls Tryz.prog 149 #[.pointer (some ⟨rb,0,none⟩)] w' (fun e w2=>e=.returned (.bool true)∧RdS l v w0 rb s w2))(h:Rd l v w0 rb (fun _=>False) i false false (rdL G++[n]) G w)(hl:(rdL G).length≤1048579)(hG:G.length≤1048580):
   Calls Tryz.prog 134 #[.pointer (some ⟨rb,0,none⟩)] w (qw l v w0 rb (Out.go s)):=by
 have HR:=qb h;have HC:=qb (qs h);have HL:=qb hl;have HG:=qb hG;have HFA:=qb (h.env.src.fair i);have hfi:=fun w'=>qaB (qh l i) w';have H1:=qb h1;have H2:=qb h2;have HBT:=qb hb;clear h1 h2 hb;clear h hl hG;go_enter Tryz.func134,Tryz.ntmps134
 go_wp2_with fail;refine HC.out.mono ?_;rintro e w1 ⟨rfl,hb1⟩;unfold tkA;have HB1:=qb hb1;have HR1:=qb (HR.out.on_ hb1);clear hb1;have HT2:=qb (qM [91] HR1.out H1.out);go_wp2_with fail;refine HT2.out.mono ?_;rintro e w2 ⟨rfl,hb2⟩;have HB2:=qb (HB1.out.trans (hb2.mono HB1.out.size));have HR2:=qb (HR1.out.on_ hb2);clear hb2;have HT3:=qb (qM [46] HR2.out H2.out);go_wp2_with fail;refine HT3.out.mono ?_;rintro e w3 ⟨rfl,hb3⟩;have HB3:=qb (HB2.out.trans (hb3.mono HB2.out.size));have HR3:=qb (HR2.out.on_ hb3);clear hb3;have HBW:=qb (HBT.out w3 HB3.out);go_wp2_with fail;refine HBW.out.mono ?_;rintro e w4 ⟨rfl,hr4⟩;have HR4:=qb hr4;clear hr4;go_wp2_with fail;go_ret;exact⟨rfl,HR4.out⟩
theorem qjA(n:NT)(o:Out)(Q:World→Prop)(h1:isM l i [91]=false)(h2:isM l i [46]=false)(hb:∀w',Below w.heap.size w w'→Calls Tryz.prog 149 #[.pointer (some ⟨rb,0,none⟩)] w' (fun e w2=>e=.returned (.bool false)∧Q w2))(hq:∀w2,Q w2→Calls Tryz.prog 150 #[.pointer (some ⟨rb,0,none⟩)] w2 (qw l v w0 rb o))(h:Rd l v w0 rb (fun _=>False) i false false (rdL G++[n]) G w)(hl:(rdL G).length≤1048579)(hG:G.length≤1048580):
   Calls Tryz.prog 134 #[.pointer (some ⟨rb,0,none⟩)] w (qw l v w0 rb (o)):=by
 have HR:=qb h;have HC:=qb (qs h);have HL:=qb hl;have HG:=qb hG;have HFA:=qb (h.env.src.fair i);have hfi:=fun w'=>qaB (qh l i) w';have H1:=qb h1;have H2:=qb h2;have HBT:=qb hb;have HQ:=qb hq;clear h1 h2 hb hq;clear h hl hG;go_enter Tryz.func134,Tryz.ntmps134
 go_wp2_with fail;refine HC.out.mono ?_;rintro e w1 ⟨rfl,hb1⟩;unfold tkA;have HB1:=qb hb1;have HR1:=qb (HR.out.on_ hb1);clear hb1;have HT2:=qb (qM [91] HR1.out H1.out);go_wp2_with fail;refine HT2.out.mono ?_;rintro e w2 ⟨rfl,hb2⟩;have HB2:=qb (HB1.out.trans (hb2.mono HB1.out.size));have HR2:=qb (HR1.out.on_ hb2);clear hb2;have HT3:=qb (qM [46] HR2.out H2.out);go_wp2_with fail;refine HT3.out.mono ?_;rintro e w3 ⟨rfl,hb3⟩;have HB3:=qb (HB2.out.trans (hb3.mono HB2.out.size));have HR3:=qb (HR2.out.on_ hb3);clear hb3;have HBW:=qb (HBT.out w3 HB3.out);go_wp2_with fail;refine HBW.out.mono ?_;rintro e w4 ⟨rfl,hr4⟩;have HLV:=qb (HQ.out w4 hr4);clear hr4;go_wp2_with fail;refine HLV.out.mono ?_;intro e w9 hp9;obtain⟨b9,hb9⟩:=qbr hp9;subst hb9;have HP9:=qb hp9;clear hp9;go_wp2_with fail;go_ret;exact HP9.out
theorem qfg(n:NT)(h:Rd l v w0 rb (fun _=>False) i false false (rdL G++[n]) G w)(hl:(rdL G).length≤1048579)(hG:G.length≤1048580)(hk:KG G):
   Calls Tryz.prog 134 #[.pointer (some ⟨rb,0,none⟩)] w (qw l v w0 rb (qD l (.have_ i G n))):=by
 rw[qD];have hl':(rdL G).length≤1048580:=by omega
 cases h1:isM l i [91]
 · rw[if_neg (by simp)];cases h2:isM l i [46]
   · rw[if_neg (by simp)];by_cases hb:qH l i=0
     · rw[if_pos hb];exact qjA n _ _ h1 h2 (fun w' hw=>qgt n hb (h.on_ hw) hl' hG) (fun w2 h2=>qf7 n h2 hl hG hk) h hl hG
     rw[if_neg hb];obtain⟨p,hp⟩:=qc (qn (qH l i+1) G n);obtain⟨G1,n1⟩:=p;have hr1:=qbj (t:=qH l i+1) G n;have hm1:=qcG (t:=qH l i+1) G n;have hg1:=qaa (t:=qH l i+1) G n;rw[←hp]at hr1 hm1 hg1 ⊢;obtain⟨q,hq⟩:=qc (qn (qH l i) G1 n1);obtain⟨G2,n2⟩:=q
     dsimp only at hr1 hm1 hg1 ⊢
     by_cases h3:qH l i=3
     · by_cases ht:qan G1=3
       · rw[if_pos ⟨h3,ht⟩];exact qjA n _ _ h1 h2 (fun w' hw=>qgr n G1 n1 hp.symm h3 ht (h.on_ hw) hl' hG) (fun w2 h2=>qf7 n1 h2 (by omega) (by omega) (fun f hf=>hk f (hm1 f hf))) h hl hG
       · rw[if_neg (fun e=>ht e.2),←hq];exact qhK n _ h1 h2 (fun w' hw=>qgs n G1 n1 hp.symm G2 n2 hq.symm h3 ht (h.on_ hw) hl' hG) h hl hG
     · rw[if_neg (fun e=>h3 e.1),←hq];exact qhK n _ h1 h2 (fun w' hw=>qhm n G1 n1 hp.symm G2 n2 hq.symm hb h3 (h.on_ hw) hl' hG) h hl hG
   · rw[if_pos rfl];exact qiS n h1 h2 h hl hG
 · rw[if_pos rfl];exact qlU n h1 h hl hG
theorem qij(s:MS)(h:RdS l v w0 rb s w)(hz:s.sz≤1048579)(hk:KG s.stk):
   Calls Tryz.prog 114 #[.pointer (some ⟨rb,0,none⟩)] w (qw l v w0 rb (qD l s)):=by
 cases s with
 |want i G=>
   have hz':G.length+cnt G≤1048579:=hz;have h':Rd l v w0 rb (fun _=>False) i true false (rdL G) G w:=h;have HB:=qb (qce h' (by rw[qaU];omega) (by omega));obtain⟨_,_,_,⟨_,_,c2,_⟩,_⟩:=h'.cells;obtain⟨o,ho⟩:=qc (qD l (.want i G));rw[show qJ l i G=o from ho.symm]at HB;rw[←ho];clear h h' hz hz' hk ho;go_enter Tryz.func114,Tryz.ntmps114
   go_wp2_with fail;refine HB.out.mono ?_;intro e w9 hp9;obtain⟨b9,hb9⟩:=qbr hp9;subst hb9;have HP9:=qb hp9;clear hp9;go_wp2_with fail;go_ret
   exact HP9.out
 |have_ i G n=>
   have hz':G.length+cnt G+1≤1048579:=hz;have h':Rd l v w0 rb (fun _=>False) i false false (rdL G++[n]) G w:=h;have HB:=qb (qfg n h' (by rw[qaU];omega) (by omega) hk);obtain⟨_,_,_,⟨_,_,c2,_⟩,_⟩:=h'.cells;obtain⟨o,ho⟩:=qc (qD l (.have_ i G n));rw[←ho]at HB ⊢;clear h h' hz hz' hk ho;go_enter Tryz.func114,Tryz.ntmps114
   go_wp2_with fail;refine HB.out.mono ?_;intro e w9 hp9;obtain⟨b9,hb9⟩:=qbr hp9;subst hb9;have HP9:=qb hp9;clear hp9;go_wp2_with fail;go_ret;exact HP9.out
end Go.Proofs.YtdndfifkfjoffaaGreatDoor.pm.em
namespace Go.Proofs.YtdndfifkfjoffaaGreatDoor.pm.em
open Go.RowKit wd lx nt ne pm mem
open vt (I64 qft qt qv qZ qee Typ)
variable{l:List Tk}{v:Value}{w0:World}{rb:Nat}{A A':Nat→Prop}{i j:Int}{wants over:Bool}{rs:List NT}{G:List Frm}{w w':World}
def qha(o:Out)(w:World)(e:Ending)(w':World):Prop:=
 match o with
 |.over n j=>∃s,e=.returned (.tuple #[.agg #[.int .i64 n.kind,.int .i64 n.at_,.int .i64 n.num,.string ⟨n.name.toArray⟩,s],.int .i64 j,.int .i64 0])∧nt.ql (fun b=>w.heap.size≤b) w' n.kids s∧Hd n∧Below w.heap.size w w'
 |.no j=>e=.returned (.tuple #[.agg ZZ,.int .i64 j,.int .i64 1])∧Below w.heap.size w w'
 |.go _=>False
theorem qcB{W2:World}(he:Env l v w)(hi:I64 i)(b:Bool)(hrb:rb=w.heap.size)(hW:W2=w.alloc (.cells #[v,.int .i64 i,.bool b,.bool false,.slice none 0 0,.slice none 0 0] RdT)):Rd l v w rb (fun _=>False) i b false [] [] W2:=by
 subst hW;refine⟨he,qd.alloc qe _,by omega,fun b q=>q.elim,(fun f hf=>by cases hf),hi,_,_,[],Box.new _ _ _ _ hrb,World.ownsRow_nil _ _ _ _,(by rw[qI]),World.ownsRow_nil _ _ _ _,fun b q=>q.elim⟩
theorem Env.on(h:Env l v w)(hb:Below w.heap.size w w'):Env l v w':=⟨h.src.on hb,h.good,h.txt,h.ld.on hb⟩
theorem RdS.rd{s:MS}(h:RdS l v w0 rb s w):∃wants rs,Rd l v w0 rb (fun _=>False) s.pos wants false rs s.stk w:=by
 cases s with
 |want i G=>exact⟨_,_,h⟩
 |have_ i G n=>exact⟨_,_,h⟩
def qg8(l:List Tk)(v:Value)(w0:World)(rb:Nat)(o:Out)(g:Nat)(wr:World):Prop:=
 (∃s k,k=g∧Hid (RdS l v w0 rb s wr)∧Hid (qe0 l s)∧Hid (qfN l k s o))∨(∃n j,o=.over n j∧g=0∧Hid (Rd l v w0 rb (fun _=>False) j false true [n] [] wr))
theorem qkj{R k:Nat}{a b c d e:Value}(hk:k≠R):(five w R a b c d e).heap[k]?=w.heap[k]?:=by
 unfold five;rw[Below.heap_setCell _ ⟨R,4,none⟩ _ k hk,Below.heap_setCell _ ⟨R,3,none⟩ _ k hk,Below.heap_setCell _ ⟨R,2,none⟩ _ k hk,Below.heap_setCell _ ⟨R,1,none⟩ _ k hk,Below.heap_setCell _ ⟨R,0,none⟩ _ k hk]
theorem qj7(w:World):w.drew.heap=w.heap:=rfl
theorem qf6{R k:Nat}{a b c d e:Value}(hk:k≠R):(five w R a b c d e).drew.heap[k]?=w.heap[k]?:=by
 rw[qj7];exact qkj hk
theorem qiW{n:List NT}{s:Value}{vr vo:Value}{R:Nat}(hk:nt.ql (KP w0 rb vr vo) w n s)(hR:R<w0.heap.size)(h:∀k,k≠R→w'.heap[k]?=w.heap[k]?):nt.ql (fun b=>w0.heap.size≤b) w' n s:=by
 refine hk.carry fun k o u q hc=>⟨q.1,?_⟩;have hne:k≠R:=fun e=>by have h1:=q.1;rw[e]at h1;exact Nat.not_lt_of_le h1 hR
 exact(World.cell?_of_block (w:=w) (w':=w') (a:=⟨k,o,none⟩) (h k hne)).trans hc
theorem ql0{n:List NT}{s:Value}{vr vo:Value}{R:Nat}(hk:nt.ql (KP w0 rb vr vo) w n s)(hR:R<w0.heap.size)(a b c d e:Value):nt.ql (fun b=>w0.heap.size≤b) (five w R a b c d e).drew n s:=qiW hk hR fun _ h=>qf6 h
theorem qfZ(k:Nat)(o:Out)(he:Env l v w)(hi:I64 i)(hk:qfN l k (.want i []) o):
   Calls Tryz.prog 90 #[v,.int .i64 i] w (qha o w):=by
 have HK:=qb hk;clear hk;obtain⟨R,hR⟩:=qc w.heap.size;obtain⟨W,hW⟩:=qc (w.alloc (.cells #[.int .i64 0,.int .i64 0,.int .i64 0,.string ⟨#[]⟩,.slice none 0 0] qi));obtain⟨B,hB⟩:=qc W.heap.size;obtain⟨W2,hW2⟩:=qc (W.alloc (.cells #[v,.int .i64 i,.bool true,.bool false,.slice none 0 0,.slice none 0 0] RdT));have hbW:Below w.heap.size w W:=by rw[hW];exact qd.alloc qe _
 have bR:Box W R qi #[.int .i64 0,.int .i64 0,.int .i64 0,.string ⟨#[]⟩,.slice none 0 0]:=by rw[hW];exact Box.new _ _ _ _ hR
 have heW:=he.on hbW;have HRD:Hid (RdS l v W B (.want i []) W2):=qb (qcB heW hi true hB hW2);have HEW:=qb heW;have HBR:=qb bR;have HRW:Hid (R<W.heap.size):=qb bR.lt;have hRB:¬R=B:=by have:=bR.lt;omega
 have hBR:¬B=R:=fun e=>hRB e.symm;have HBW:=qb hbW;have HWR:Hid (w.heap.size≤R):=qb (by omega);have HW:=qb hW;have HR:=qb hR;have HW2:=qb hW2;have HBB:=qb hB;have HLEN:=qb he.src.len;clear hR hW hB hW2 hbW bR heW he hi;obtain⟨Av,cv,rfl⟩:=HEW.out.src.lies.form;go_enter Tryz.func90,Tryz.ntmps90
 go_wp2_with (first|(rw[←HW.out,←HR.out])|(rw[←HW2.out,←HBB.out]))
 go_loopg [] k (fun g wr=>qg8 l (.slice Av l.length cv) W B o g wr)
 case atStart=>unfold qg8;exact Or.inl ⟨_,k,rfl,HRD,qb (Or.inl ⟨rfl,fun f hf=>by cases hf⟩),HK⟩
 case round=>
   unfold qg8 at hrel;rcases hrel with⟨s,g1,hg1,HS,HI,HRu⟩|⟨n,j,hov,hg,HRd⟩
   · obtain⟨_,_,hrd⟩:=RdS.rd HS.out;obtain⟨_,_,_,⟨_,_,_,c3,_⟩,_⟩:=hrd.cells;have HST:=qb (qij s HS.out (HI.out.small HLEN.out) HI.out.kg)
     cases g1 with
     |zero=>exact HRu.out.elim
     |succ g1=>
       clear hrd;go_wp2_with fail;refine HST.out.mono ?_;intro e w1 hp;rcases HRu.out with⟨s1,h1,h2⟩|⟨h1,h2⟩
       · rw[h1]at hp;obtain⟨rfl,hr1⟩:=hp;have HR1:=qb hr1;have HI1:=qb (HI.out.step h1);have HU1:=qb h2;clear hr1 h1 h2 c3;go_wp2_with fail
         go_roundg g1
         case measure=>omega
         case rel=>unfold qg8;exact Or.inl ⟨s1,g1,rfl,HR1,HI1,HU1⟩
       · rw[h1]at hp
         cases o with
         |go s1=>exact absurd rfl (h2 s1)
         |no j=>
           obtain⟨rfl,wn,ov,rs1,G1,hr1⟩:=hp;have hbR:=HBR.out.below hr1.low HRW.out;obtain⟨_,_,_,⟨_,c1,_⟩,_⟩:=hr1.cells;have r0:=hbR.cell 0;have r1:=hbR.cell 1;have r2:=hbR.cell 2;have r3:=hbR.cell 3;have r4:=hbR.cell 4;simp only[qg]at r0 r1 r2 r3 r4;have gr0:=hbR.frozen 0;have gr1:=hbR.frozen 1;have gr2:=hbR.frozen 2;have gr3:=hbR.frozen 3;have gr4:=hbR.frozen 4;have HbR:=qb hbR;have HFIN:=qb (qm (HBW.out.trans (hr1.low.mono HBW.out.size)) HWR.out (.int .i64 0) (.int .i64 0) (.int .i64 0) (.string ⟨#[]⟩) (.slice none 0 0)).drew;clear hr1 hbR h1 h2 c3;go_wp2_with fail;go_region
           all_goals go_wp2_with fail
           refine bodyPost_ret (qaK rfl rfl rfl rfl (qj HbR.out _ _ _ _ _).drew) rfl ?_
           exact⟨rfl,HFIN.out⟩
         |over n j=>
           obtain⟨rfl,hr1⟩:=hp;have HR1:=qb hr1;clear hr1 h1 h2 c3;go_wp2_with fail
           go_roundg 0
           case measure=>omega
           case rel=>unfold qg8;exact Or.inr ⟨n,j,rfl,rfl,HR1⟩
   · subst hov;obtain⟨vr,vo,vs,⟨_,c1,_,c3,c4,_⟩,_,hbx,hr⟩:=HRd.out.cells;obtain⟨gg,c,xs,s,rfl,rfl,hxl,hgB,hgl,hgc,hdn,hkn,hxn,⟨e0,e1,e2,e3,e4⟩,hfg⟩:=qfl (rs:=[]) hr;obtain⟨As,cs,rfl,_⟩:=hkn.form;have hbR:=HBR.out.below HRd.out.low HRW.out;have hgR:¬gg=R:=by have:=HRW.out;omega
     have hRg:¬R=gg:=fun e=>hgR e.symm;have r0:=hbR.cell 0;have r1:=hbR.cell 1;have r2:=hbR.cell 2;have r3:=hbR.cell 3;have r4:=hbR.cell 4;simp only[qg]at r0 r1 r2 r3 r4;have gr0:=hbR.frozen 0;have gr1:=hbR.frozen 1;have gr2:=hbR.frozen 2;have gr3:=hbR.frozen 3;have gr4:=hbR.frozen 4;change wr.cell? ⟨gg,0,none⟩=_ at e0;change wr.cell? ⟨gg,1,none⟩=_ at e1;change wr.cell? ⟨gg,2,none⟩=_ at e2;change wr.cell? ⟨gg,3,none⟩=_ at e3;change wr.cell? ⟨gg,4,none⟩=_ at e4;change wr.cell? ⟨B,4,none⟩=some (.slice (some ⟨gg,0,none⟩) 1 c)at c4;have HbR:=qb hbR;have HFIN:Hid (qha (.over n j) w (.returned (.tuple #[.agg #[.int .i64 n.kind,.int .i64 n.at_,.int .i64 n.num,.string ⟨n.name.toArray⟩,.slice As n.kids.length cs],.int .i64 j,.int .i64 0])) (five wr R (.int .i64 n.kind) (.int .i64 n.at_) (.int .i64 n.num) (.string ⟨n.name.toArray⟩) (.slice As n.kids.length cs)).drew):=qb ⟨_,rfl,(ql0 hkn HRW.out _ _ _ _ _).mono fun b h=>Nat.le_trans HBW.out.size h,hdn,(qm (HBW.out.trans (HRd.out.low.mono HBW.out.size)) HWR.out _ _ _ _ _).drew⟩;obtain⟨nl,hnl⟩:=qc n.kids.length;obtain⟨nk,hnk⟩:=qc n.kind;obtain⟨na,hna⟩:=qc n.at_;obtain⟨nn,hnn⟩:=qc n.num;obtain⟨nm,hnm⟩:=qc n.name;rw[←hnl,←hnk,←hna,←hnn,←hnm]at HFIN;rw[←hnk]at e0;rw[←hna]at e1;rw[←hnn]at e2;rw[←hnm]at e3;rw[←hnl]at e4;clear hbx hr hxl hgB hgl hgc hdn hkn hxn hfg hbR hnl hnk hna hnn hnm;go_wp2_with fail;go_region
     all_goals go_wp2_with fail
     all_goals refine bodyPost_ret (qaK rfl rfl rfl rfl (qj HbR.out _ _ _ _ _).drew) rfl ?_
     all_goals exact HFIN.out
end Go.Proofs.YtdndfifkfjoffaaGreatDoor.pm.em

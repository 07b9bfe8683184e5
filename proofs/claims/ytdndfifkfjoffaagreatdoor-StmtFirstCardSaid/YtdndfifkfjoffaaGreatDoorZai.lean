/- The package's looks at a token. -/
import Derived.Test.YtdndfifkfjoffaaGreatDoorZaf
import Derived.Test.YtdndfifkfjoffaaGreatDoorZah
import Derived.RegionTactic
import Derived.StillTailTactics
import Derived.Test.YtdndfifkfjoffaaGreatDoorZaa
set_option maxRecDepth 100000
set_option maxHeartbeats 4000000
namespace Go.Proofs.YtdndfifkfjoffaaGreatDoor.pm.em
open Go.RowKit wd lx nt ne pm mem
open vt (I64)
theorem qc9{w W:World}{H:Nat}{k a n:Int}{s:List UInt8}(hH:H=w.heap.size)(hW:W=w.alloc (.cells #[.int .i64 k,.int .i64 a,.int .i64 n,.string ⟨s.toArray⟩] TkT)):
   (W.cell? ⟨H,0,none⟩=some (.int .i64 k)∧W.cell? ⟨H,1,none⟩=some (.int .i64 a)∧W.cell? ⟨H,2,none⟩=some (.int .i64 n)∧W.cell? ⟨H,3,none⟩=some (.string ⟨s.toArray⟩))∧Hid (Below w.heap.size w W)∧Hid (H<W.heap.size):=by
 have hb:Box W H TkT #[.int .i64 k,.int .i64 a,.int .i64 n,.string ⟨s.toArray⟩]:=by rw[hW];exact Box.new _ _ _ _ hH
 refine⟨⟨hb.cell 0,hb.cell 1,hb.cell 2,hb.cell 3⟩,qb ?_,qb hb.lt⟩;rw[hW];exact qd.alloc qe _
def qoI(t:Tk)(m:List UInt8):Bool:=decide (t.kind=4)&&decide (t.text=m)
def qaD(t:Tk)(m:List UInt8):Bool:=decide (t.kind=3)&&decide (t.text=m)
theorem qgz(l:List Tk)(i:Int)(m:List UInt8):isM l i m=qoI (qh l i) m:=rfl
theorem qdk(l:List Tk)(i:Int)(m:List UInt8):pm.isW l i m=qaD (qh l i) m:=rfl
theorem qfr(t:Tk)(m:List UInt8)(w:World):
   Calls Tryz.prog 158 #[tkA t,.string ⟨m.toArray⟩] w fun e w'=>e=.returned (.bool (qoI t m))∧Below w.heap.size w w':=by
 obtain⟨k,a,n,s⟩:=t;show Calls Tryz.prog 158 #[.agg #[.int .i64 k,.int .i64 a,.int .i64 n,.string ⟨s.toArray⟩],.string ⟨m.toArray⟩] w fun e w'=>e=.returned (.bool (decide (k=4)&&decide (s=m)))∧Below w.heap.size w w'
 obtain⟨r,hr⟩:=qc ((decide (k=4)&&decide (s=m)));rw[←hr];obtain⟨H,hH⟩:=qc w.heap.size;obtain⟨W,hW⟩:=qc (w.alloc (.cells #[.int .i64 k,.int .i64 a,.int .i64 n,.string ⟨s.toArray⟩] TkT));obtain⟨⟨x0,x1,x2,x3⟩,HB,HHW⟩:=qc9 hH hW;have HW:=qb hW;have HHH:=qb hH;clear hH hW;by_cases hk:k=4
 · by_cases hm:s=m
   · have HR:Hid (r=true):=qb (by rw[hr];simp[hk,hm]);clear hr;subst hk hm;go_enter Tryz.func158,Tryz.ntmps158
     go_wp2_with (first|(rw[←HW.out,←HHH.out]));go_ret;exact⟨by rw[HR.out];rfl,HB.out⟩
   · have HR:Hid (r=false):=qb (by rw[hr];simp[hm]);clear hr;subst hk;have e4:(s==m)=false:=beq_eq_false_iff_ne.2 hm;clear hm;go_enter Tryz.func158,Tryz.ntmps158
     go_wp2_with (first|(rw[←HW.out,←HHH.out]));go_ret;exact⟨by rw[HR.out];rfl,HB.out⟩
 · have e4:(k==4)=false:=beq_eq_false_iff_ne.2 hk;have HR:Hid (r=false):=qb (by rw[hr];simp[hk]);clear hk hr;go_enter Tryz.func158,Tryz.ntmps158
   go_wp2_with (first|(rw[←HW.out,←HHH.out]));go_ret;exact⟨by rw[HR.out];rfl,HB.out⟩
theorem qU(t:Tk)(m:List UInt8)(w:World):
   Calls Tryz.prog 144 #[tkA t,.string ⟨m.toArray⟩] w fun e w'=>e=.returned (.bool (qaD t m))∧Below w.heap.size w w':=by
 obtain⟨k,a,n,s⟩:=t;show Calls Tryz.prog 144 #[.agg #[.int .i64 k,.int .i64 a,.int .i64 n,.string ⟨s.toArray⟩],.string ⟨m.toArray⟩] w fun e w'=>e=.returned (.bool (decide (k=3)&&decide (s=m)))∧Below w.heap.size w w'
 obtain⟨r,hr⟩:=qc ((decide (k=3)&&decide (s=m)));rw[←hr];obtain⟨H,hH⟩:=qc w.heap.size;obtain⟨W,hW⟩:=qc (w.alloc (.cells #[.int .i64 k,.int .i64 a,.int .i64 n,.string ⟨s.toArray⟩] TkT));obtain⟨⟨x0,x1,x2,x3⟩,HB,HHW⟩:=qc9 hH hW;have HW:=qb hW;have HHH:=qb hH;clear hH hW;by_cases hk:k=3
 · by_cases hm:s=m
   · have HR:Hid (r=true):=qb (by rw[hr];simp[hk,hm]);clear hr;subst hk hm;go_enter Tryz.func144,Tryz.ntmps144
     go_wp2_with (first|(rw[←HW.out,←HHH.out]));go_ret;exact⟨by rw[HR.out];rfl,HB.out⟩
   · have HR:Hid (r=false):=qb (by rw[hr];simp[hm]);clear hr;subst hk;have e4:(s==m)=false:=beq_eq_false_iff_ne.2 hm;clear hm;go_enter Tryz.func144,Tryz.ntmps144
     go_wp2_with (first|(rw[←HW.out,←HHH.out]));go_ret;exact⟨by rw[HR.out];rfl,HB.out⟩
 · have e4:(k==3)=false:=beq_eq_false_iff_ne.2 hk;have HR:Hid (r=false):=qb (by rw[hr];simp[hk]);clear hk hr;go_enter Tryz.func144,Tryz.ntmps144
   go_wp2_with (first|(rw[←HW.out,←HHH.out]));go_ret;exact⟨by rw[HR.out];rfl,HB.out⟩
theorem qd7(t:Tk)(w:World)(hg:t.kind=2→0≤t.n):
   Calls Tryz.prog 172 #[tkA t] w fun e w'=>e=.returned (.bool (decide (t.kind=2)))∧Below w.heap.size w w':=by
 obtain⟨k,a,n,s⟩:=t;change k=2→0≤n at hg;show Calls Tryz.prog 172 #[.agg #[.int .i64 k,.int .i64 a,.int .i64 n,.string ⟨s.toArray⟩]] w fun e w'=>e=.returned (.bool (decide (k=2)))∧Below w.heap.size w w'
 obtain⟨q,hq⟩:=qc (decide (k=2));rw[←hq];obtain⟨H,hH⟩:=qc w.heap.size;obtain⟨W,hW⟩:=qc (w.alloc (.cells #[.int .i64 k,.int .i64 a,.int .i64 n,.string ⟨s.toArray⟩] TkT));obtain⟨⟨x0,x1,x2,x3⟩,HB,HHW⟩:=qc9 hH hW;have HW:=qb hW;have HHH:=qb hH;clear hH hW;by_cases hk:k=2
 · have hn:=hg hk;have HR:Hid (q=true):=qb (by rw[hq];simp[hk]);clear hq;subst hk;clear hg;go_enter Tryz.func172,Tryz.ntmps172
   go_wp2_with (first|(rw[←HW.out,←HHH.out]));go_ret;exact⟨by rw[HR.out];rfl,HB.out⟩
 · have e4:(k==2)=false:=beq_eq_false_iff_ne.2 hk;have HR:Hid (q=false):=qb (by rw[hq];simp[hk]);clear hq hk hg;go_enter Tryz.func172,Tryz.ntmps172
   go_wp2_with (first|(rw[←HW.out,←HHH.out]));go_ret;exact⟨by rw[HR.out];rfl,HB.out⟩
def qj5:List UInt8:=[48,49,50,51,52,53,54,55,56,57]
def qfo:List UInt8:=[97,98,99,100,101,102,103,104,105,106,107,108,109,110,111,112,113,114,115,116,117,118,119,120,121,122,65,66,67,68,69,70,71,72,73,74,75,76,77,78,79,80,81,82,83,84,85,86,87,88,89,90,95,48,49,50,51,52,53,54,55,56,57]
theorem qlD:∀n:Fin 256,decide (0≤Lib.indexByte qj5 (UInt8.ofNat n.val))=qa1 (UInt8.ofNat n.val):=by decide +kernel
theorem qlC(c:UInt8):decide (0≤Lib.indexByte qj5 c)=qa1 c:=by
 have h:=qlD ⟨c.toNat,c.toNat_lt⟩;simpa using h
theorem ql2:∀n:Fin 256,qaP (UInt8.ofNat n.val)=true→qfo.contains (UInt8.ofNat n.val)=true:=by decide +kernel
theorem ql1(c:UInt8)(hc:qaP c=true):qfo.contains c=true:=by
 have h:=ql2 ⟨c.toNat,c.toNat_lt⟩;rw[show UInt8.ofNat (⟨c.toNat,c.toNat_lt⟩:Fin 256).val=c by simp]at h;exact h hc
theorem qiX:∀b∈qfo,b.toNat<128:=by decide +kernel
theorem qmU{s:List UInt8}(h:s.all qaP=true):Lib.trimS s qfo=[]:=by
 have h2:∀c∈s,qfo.contains c=true:=fun c hc=>ql1 c (List.all_eq_true.1 h c hc)
 have h3:∀r:List UInt8,(∀c∈r,qfo.contains c=true)→r.dropWhile (qfo.contains ·)=[]:=by
   intro r
   induction r with
   |nil=>intro _;rfl
   |cons c r ih=>intro hr;rw[List.dropWhile_cons,if_pos (hr c (by simp))];exact ih fun x hx=>hr x (by simp[hx])
 unfold Lib.trimS Lib.trimRightS Lib.trimLeftS;rw[h3 s.reverse (fun c hc=>h2 c (List.mem_reverse.1 hc))];rfl
theorem qck(t:Tk)(w:World)(hL:wd.LD w)(hg:t.kind=1→named t.text=true):
   Calls Tryz.prog 159 #[tkA t] w fun e w'=>e=.returned (.bool (decide (t.kind=1)))∧Below w.heap.size w w':=by
 obtain⟨k,a,n,s⟩:=t;change k=1→named s=true at hg;show Calls Tryz.prog 159 #[.agg #[.int .i64 k,.int .i64 a,.int .i64 n,.string ⟨s.toArray⟩]] w fun e w'=>e=.returned (.bool (decide (k=1)))∧Below w.heap.size w w'
 obtain⟨q,hq⟩:=qc (decide (k=1));rw[←hq];obtain⟨H,hH⟩:=qc w.heap.size;obtain⟨W,hW⟩:=qc (w.alloc (.cells #[.int .i64 k,.int .i64 a,.int .i64 n,.string ⟨s.toArray⟩] TkT));obtain⟨⟨x0,x1,x2,x3⟩,HB,HHW⟩:=qc9 hH hW;have HX:=qb x3;have HW:=qb hW;have HHH:=qb hH;clear hH hW;by_cases hk:k=1
 · have hn:=hg hk;have HR:Hid (q=true):=qb (by rw[hq];simp[hk]);clear hq;subst hk;rw[ql8]at hn;clear hg
   cases s with
   |nil=>simp[qd5]at hn
   |cons c r=>
     simp only[qd5,Bool.and_eq_true,decide_eq_true_eq,Bool.not_eq_true']at hn;obtain⟨⟨⟨h1,h2⟩,h3⟩,h4⟩:=hn;have hl:(c::r).length=r.length+1:=rfl;have d1:(c::r:List UInt8).isEmpty=false:=rfl;have d2:decide ((32:Int)<((c::r).length:Int))=false:=by rw[decide_eq_false_iff_not];omega
     have HC:=qb (fun w'=>Tryz.strings_Contains_one ⟨qj5.toArray⟩ c w')
     have ed:decide (0≤Lib.indexByte (⟨qj5.toArray⟩:ByteArray).data.toList c)=false:=by
       show decide (0≤Lib.indexByte qj5 c)=false
       rw[qlC c,h2]
     rw[ed]at HC;have et:Lib.trimS (⟨(c::r).toArray⟩:ByteArray).data.toList (⟨qfo.toArray⟩:ByteArray).data.toList=[]:=qmU h3;have HT:=qb (fun w'=>Tryz.strings_Trim_laid ⟨(c::r).toArray⟩ ⟨qfo.toArray⟩ w' (by show(c::r).length≤_;omega) (by show qfo.length<_;decide) (fun j b hb=>qiX b (List.mem_of_getElem? hb)));rw[et]at HT;have HI:=qb (fun w' (hb:Below w.heap.size w w')=>wd.qgA (c::r) w' (by omega) (hL.on hb));rw[h4]at HI;obtain⟨S,hS⟩:=qc (c::r)
     have ee:(⟨(c::r).toArray⟩:ByteArray).extract 0 1=⟨#[c]⟩:=by
       apply ByteArray.ext;simp[ByteArray.extract,ByteArray.copySlice]
     rw[←ee]at HC;rw[←hS]at HC HT HI d1 d2 x3 HX HW h1 ⊢;have hS1:(1:Int)≤(S.length:Int):=by rw[hS,hl];omega
     have HSB:=HB;clear h2 h3 h4 ed et ee hL hS hl;unfold qj5 at HC;unfold qfo at HT;go_enter Tryz.func159,Tryz.ntmps159
     go_wp2_with (first|(rw[←HW.out,←HHH.out])|(go_at_call 170;refine(HC.out _).mono ?_;rintro e w1 ⟨rfl,rfl⟩)|(go_at_call 171;refine(HT.out _).mono ?_;rintro e w1 ⟨rfl,hb1⟩;have x3':=(hb1.cell (p:=⟨H,3,none⟩) HHW.out).trans HX.out;have HB1:=qb (HB.out.trans (hb1.mono HB.out.size));clear hb1)|(go_at_call 139;refine(HI.out _ HB1.out).mono ?_;rintro e w2 ⟨rfl,hb2⟩));go_ret;exact⟨by rw[HR.out];rfl,HB1.out.trans (hb2.mono HB1.out.size)⟩
 · have e4:(k==1)=false:=beq_eq_false_iff_ne.2 hk;have HR:Hid (q=false):=qb (by rw[hq];simp[hk]);clear hq hg hL;go_enter Tryz.func159,Tryz.ntmps159
   go_wp2_with (first|(rw[←HW.out,←HHH.out]));go_ret;exact⟨by rw[HR.out];rfl,HB.out⟩
theorem qk2(s:List UInt8)(w:World)(hL:wd.LD w)(hs:s.length≤1048576):Calls Tryz.prog 173 #[.string ⟨s.toArray⟩] w fun e w'=>e=.returned (.tuple #[.int .i64 (qbk s),.bool (isS s)])∧Below w.heap.size w w':=wd.qcp s w hs hL
theorem qji(t:Tk):0≤sgn t∧sgn t≤14:=by
 unfold sgn;split
 · by_cases hm:t.text∈qz
   · have:=qjM hm;omega
   · rw[(qfG hm).1];decide
 · decide
theorem qef(t:Tk)(w:World)(hL:wd.LD w)(hs:t.text.length≤1048576):
   Calls Tryz.prog 162 #[tkA t] w fun e w'=>e=.returned (.tuple #[.int .i64 (sgn t),.int .i64 (qau (sgn t))])∧Below w.heap.size w w':=by
 have hin:=qji t;obtain⟨k,a,n,s⟩:=t;change s.length≤_ at hs;show Calls Tryz.prog 162 #[.agg #[.int .i64 k,.int .i64 a,.int .i64 n,.string ⟨s.toArray⟩]] w _
 obtain⟨H,hH⟩:=qc w.heap.size;obtain⟨W,hW⟩:=qc (w.alloc (.cells #[.int .i64 k,.int .i64 a,.int .i64 n,.string ⟨s.toArray⟩] TkT));obtain⟨⟨x0,x1,x2,x3⟩,HB,HHW⟩:=qc9 hH hW;have HW:=qb hW;have HHH:=qb hH;by_cases hk:k=4
 · subst hk;have e:sgn ⟨4,a,n,s⟩=qbk s:=if_pos rfl;rw[e]at hin ⊢;have HC:=qb (qk2 s W (hL.on HB.out) hs);have HD:=qb (fun w' (hb:Below w.heap.size w w')=>wd.qbC (qbk s) w' (by unfold I64;omega) (hL.on hb));obtain⟨q,hq⟩:=qc (qbk s);rw[←hq]at HC HD ⊢;clear hH hW hL hq hin e hs;go_enter Tryz.func162,Tryz.ntmps162
   go_wp2_with (first|(rw[←HW.out,←HHH.out])|(go_at_call 173;refine HC.out.mono ?_;rintro e w1 ⟨rfl,hb1⟩;have HB1:=qb (HB.out.trans (hb1.mono HB.out.size));clear hb1)|(go_at_call 164;refine(HD.out _ HB1.out).mono ?_;rintro e w2 ⟨rfl,hb2⟩))
   go_ret2
   exact⟨rfl,HB1.out.trans (hb2.mono HB1.out.size)⟩
 · have e4:(k==4)=false:=beq_eq_false_iff_ne.2 hk;rw[show sgn ⟨k,a,n,s⟩=0 from if_neg hk,show qau 0=0 from rfl];clear hk hH hW hL hin hs;go_enter Tryz.func162,Tryz.ntmps162
   go_wp2_with (first|(rw[←HW.out,←HHH.out]))
   go_ret2
   exact⟨rfl,HB.out⟩
end Go.Proofs.YtdndfifkfjoffaaGreatDoor.pm.em

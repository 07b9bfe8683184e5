/- How many brackets are open, and how many signs stand in a row: over plain lists of tokens. (and what it stands on) -/
import Derived.Test.YtdndfifkfjoffaaGreatDoorProg
import Derived.IntWalk
import Derived.Laws.BitsAllLaws
import Derived.WalkKit
import Derived.BigQuiet
import Derived.Deep.QuietTactic
import Derived.Lib.Hide
import Derived.LoopTactic
import Derived.Outline
import Derived.Lib.Strings
import Derived.KernelRfl
import Derived.Below
import Derived.OwnWalk
import Derived.WalkSmall
set_option maxRecDepth 100000
set_option maxHeartbeats 4000000
namespace Go.Proofs.YtdndfifkfjoffaaGreatDoor
open Go Go.RowKit
theorem qb {p : Prop} (h : p) : Hid p := Lib.hid h
theorem qc {α : Type} (a : α) : ∃ b, b = a := ⟨a, rfl⟩
theorem qd {n : Nat} {w : World} : Below n w w := Below.refl n w
theorem qe {n : Nat} : n ≤ n := Nat.le_refl n
theorem qg {α : Type} : (∀ (xs : List α) (i : Nat), xs.toArray[i]? = xs[i]?) ∧ (∀ (a : α) (l : List α), (a :: l)[0]? = some a) ∧ (∀ (a : α) (l : List α) (i : Nat), (a :: l)[i+1]? = l[i]?) := ⟨fun _ _ => List.getElem?_toArray, fun _ _ => List.getElem?_cons_zero, fun _ _ _ => List.getElem?_cons_succ⟩
theorem qf {α : Type} : (∀ (xs : List α) (i : Nat) (h : i < xs.toArray.size), xs.toArray[i] = xs[i]'(by simpa using h)) ∧ (∀ (a : α) (l : List α) (h : 0 < (a :: l).length), (a :: l)[0] = a) ∧ (∀ (a : α) (l : List α) (i : Nat) (h : i + 1 < (a :: l).length), (a :: l)[i+1] = l[i]'(by simpa using h)) ∧ (∀ (xs : List α) (i : Nat) (a : α), xs.toArray.setIfInBounds i a = (xs.set i a).toArray) ∧ (∀ (x a : α) (l : List α), (x :: l).set 0 a = a :: l) ∧ (∀ (x a : α) (l : List α) (n : Nat), (x :: l).set (n+1) a = x :: l.set n a) := ⟨fun _ _ _ => List.getElem_toArray _, fun _ _ _ => List.getElem_cons_zero _ _ _, fun _ _ _ _ => List.getElem_cons_succ _ _ _ _, fun _ _ _ => List.setIfInBounds_toArray _ _ _, fun _ _ _ => rfl, fun _ _ _ _ => rfl⟩
end Go.Proofs.YtdndfifkfjoffaaGreatDoor
namespace Go.Proofs.YtdndfifkfjoffaaGreatDoor.wd
def qaf:List (List UInt8):=[[114,101,99],[105,115,111],[102,117,110],[109,101,114,103,101],[109,97,105,110],[118,97,114],[105,102],[101,108,115,101],[119,104,105,108,101],[114,101,116,117,114,110],[102,111,114,107],[106,111,105,110],[112,114,105,110,116],[110,101,119],[98,121],[105,110,116],[98,111,111,108],[114,101,118],[116,114,117,101],[102,97,108,115,101]]
def qz:List (List UInt8):=[[43],[45],[42],[47],[37],[61,61],[33,61],[60],[60,61],[62],[62,61],[38,38],[124,124],[33]]
def qa9:List (List UInt8):=[[40],[41],[123],[125],[91],[93],[44],[59],[46],[61]]
def qat:List (List UInt8):=qa9++qz
def isW(s:List UInt8):Bool:=qaf.contains s
def qah(k:Int):List UInt8:=if k<1∨14<k then[] else qz.getD (k-1).toNat []
def qau(k:Int):Int:=if 1≤k∧k≤2 then 4 else if 3≤k∧k≤5 then 5 else if 6≤k∧k≤11 then 3 else if k=12 then 2 else if k=13 then 1 else 0
def qD(s best m:List UInt8):List UInt8:=if m.length≤s.length∧s.take m.length=m∧best.length<m.length then m else best
def qbV(s:List UInt8):List UInt8:=qat.foldl (qD s) []
def qbz(l:List (List UInt8)):List Value:=l.map fun s=>.string ⟨s.toArray⟩
theorem qik(l:List (List UInt8)):(qbz l).length=l.length:=by unfold qbz;simp
theorem qds(l:List (List UInt8))(k:Nat)(h:k<l.length):(qbz l)[k]?=some (.string ⟨l[k].toArray⟩):=by
 unfold qbz;simp[List.getElem?_eq_getElem h]
theorem qiO{α β:Type}(f:β→α→β)(b:β)(l:List α)(k:Nat)(h:k<l.length):(l.take (k+1)).foldl f b=f ((l.take k).foldl f b) l[k]:=by
 rw[List.take_succ_eq_append_getElem h,List.foldl_append];rfl
theorem qca(l:List (List UInt8))(s:List UInt8)(k:Nat)(h:k<l.length)(h0:(l.take k).contains s=false)(h1:l[k]≠s):(l.take (k+1)).contains s=false:=by
 rw[List.take_succ_eq_append_getElem h];simp only[List.contains_eq_any_beq,List.any_append,Bool.or_eq_false_iff]at h0 ⊢;refine⟨h0,?_⟩;simp;exact fun e=>h1 e.symm
theorem qeE(l:List (List UInt8))(s:List UInt8)(k:Nat)(h:k<l.length)(h1:l[k]=s):l.contains s=true:=by
 rw[List.contains_iff_mem,←h1];exact List.getElem_mem h
def qbk(s:List UInt8):Int:=if s∈qz then(qz.idxOf s:Int)+1 else 0
def isS(s:List UInt8):Bool:=decide (s∈qz)
theorem qmI{k:Int}(h1:1≤k)(h2:k≤14):qah k∈qz∧qbk (qah k)=k∧qah k≠[]:=by
 obtain⟨n,rfl⟩:∃n:Nat,k=(n:Int)+1:=⟨(k-1).toNat,by omega⟩;have hn:n<14:=by omega
 exact(by decide +kernel:∀n:Fin 14,qah ((n.val:Int)+1)∈qz∧qbk (qah ((n.val:Int)+1))=(n.val:Int)+1∧qah ((n.val:Int)+1)≠[]) ⟨n,hn⟩
theorem qjM{s:List UInt8}(h:s∈qz):1≤qbk s∧qbk s≤14∧qah (qbk s)=s∧s≠[]:=
 (by decide +kernel:∀s∈qz,1≤qbk s∧qbk s≤14∧qah (qbk s)=s∧s≠[]) s h
theorem qfG{s:List UInt8}(h:s∉qz):qbk s=0∧isS s=false:=⟨if_neg h,decide_eq_false h⟩
end Go.Proofs.YtdndfifkfjoffaaGreatDoor.wd
namespace Go.Proofs.YtdndfifkfjoffaaGreatDoor.wm
open Go.RowKit (wrap64)
def qoG(n:Int):Bool:=decide (-9223372036854775808≤n∧n≤9223372036854775807)
def told(n:Int):Int × Int:=if qoG n=true then(n,0) else(0,2)
end Go.Proofs.YtdndfifkfjoffaaGreatDoor.wm
namespace Go.Proofs.YtdndfifkfjoffaaGreatDoor.whole
open Go.RowKit wm
abbrev qnG(p:Int × Int):Ending:=.returned (.tuple #[.int .i64 p.1,.int .i64 p.2])
end Go.Proofs.YtdndfifkfjoffaaGreatDoor.whole
namespace Go.Proofs.YtdndfifkfjoffaaGreatDoor.whole
open Go.RowKit wm
def isD(c:UInt8):Bool:=decide (48≤(c.toNat:Int)∧(c.toNat:Int)≤57)
def qhv(l:List UInt8):Bool:=!l.isEmpty&&l.all isD
theorem qgh(s:ByteArray)(k:Nat)(h:k<s.size):s.data.toList.take (k+1)=s.data.toList.take k++[s[k]]:=by
 rw[List.take_succ_eq_append_getElem (by simpa using h)];rfl
theorem qln(s:ByteArray)(k:Nat)(h:k<s.size):(s.data.toList.take (k+1)).all isD=((s.data.toList.take k).all isD&&isD s[k]):=by
 rw[qgh s k h,List.all_append];simp
theorem qny(s:ByteArray)(k:Nat)(h:k<s.size)(hd:isD s[k]=false):qhv s.data.toList=false:=by
 unfold qhv
 have:s.data.toList.all isD=false:=by
   rw[List.all_eq_false];exact⟨s[k],by simp[ByteArray.getElem_eq_getElem_data],by simp[hd]⟩
 rw[this,Bool.and_false]
def qc7(p:Int × Bool)(c:UInt8):Int × Bool:=
 if p.2=true∨1000000000000000000<p.1 then(p.1,true) else(10*p.1+((c.toNat:Int)-48),false)
def qeN(l:List UInt8):Int × Bool:=l.foldl qc7 (0,false)
theorem qk0(l:List UInt8)(c:UInt8):qeN (l++[c])=qc7 (qeN l) c:=by
 unfold qeN;rw[List.foldl_append];rfl
theorem qmK(p:Int × Bool)(c:UInt8)(hp:0≤p.1∧p.1≤10000000000000000009)(hc:isD c=true):0≤(qc7 p c).1∧(qc7 p c).1≤10000000000000000009:=by
 unfold isD at hc;simp only[decide_eq_true_eq]at hc;unfold qc7;split
 · exact hp
 · rename_i hn
   simp only[not_or]at hn;exact⟨by show 0≤10*_+_;omega,by show 10*_+_≤_;omega⟩
theorem qhH:∀(l:List UInt8) (p:Int × Bool),0≤p.1∧p.1≤10000000000000000009→l.all isD=true→0≤(l.foldl qc7 p).1∧(l.foldl qc7 p).1≤10000000000000000009
 |[],_,hp,_=>hp
 |c::r,p,hp,h=>by
   simp only[List.all_cons,Bool.and_eq_true]at h;exact qhH r _ (qmK p c hp h.1) h.2
theorem qjJ(l:List UInt8)(h:l.all isD=true):0≤(qeN l).1∧(qeN l).1≤10000000000000000009:=qhH l _ ⟨by decide,by decide⟩ h
def qbs(l:List UInt8):Int × Int:=
 if qhv l=true then(if (qeN l).2=true∨9223372036854775808≤(qeN l).1 then(0,2) else((qeN l).1,0)) else(0,1)
theorem qkZ(s:ByteArray)(w:World)(hs:s.size≤maxLen):
   Calls Tryz.prog 60 #[.string s] w fun e w'=>e=qnG (qbs s.data.toList)∧∃n,w'=w.drewN n:=by
 by_cases he:s.size=0
 · have hd:Hid (qbs s.data.toList=(0,1)):=by
     have:s.data.toList=[]:=List.eq_nil_of_length_eq_zero (by simpa using he);show _=_
     rw[this];rfl
   have hl:s.toList.isEmpty=true:=by
     rw[Lib.toList_data,List.isEmpty_iff];exact List.eq_nil_of_length_eq_zero (by simpa using he)
   clear he;unfold maxLen at hs;go_enter Tryz.func60,Tryz.ntmps60
   go_wp2
   go_ret2
   exact⟨by rw[hd.out];rfl,0,rfl⟩
 · have hl:s.toList.isEmpty=false:=by
     rw[Lib.toList_data,List.isEmpty_eq_false_iff];intro h;apply he;have:=congrArg List.length h;simpa using this
   clear he;unfold maxLen at hs;go_enter Tryz.func60,Tryz.ntmps60
   go_wp2
   go_loop [4,5,6] (fun n f i=>∃(k:Nat) (m:Int) (b:Bool),k≤s.size∧i=.int .i64 k∧n=.int .u64 m∧f=.bool b∧Hid (qeN (s.data.toList.take k)=(m,b))∧Hid ((s.data.toList.take k).all isD=true)) (fun _ _ i=>s.size-(intOf i).toNat)
   case atStart=>exact⟨0,0,false,Nat.zero_le _,rfl,rfl,rfl,qb rfl,qb rfl⟩
   case round=>
     obtain⟨k,m,b,hk,rfl,rfl,rfl,HR,HA⟩:=hrel
     have hm:0≤m∧m≤10000000000000000009:=by
       have:=qjJ _ HA.out;rw[HR.out]at this;exact this
     by_cases hlt:k<s.size
     · have hsn:=qb (qln s k hlt);have hno:=qb (qny s k hlt)
       have hrs:Hid (qeN (s.data.toList.take (k+1))=qc7 (m,b) s[k]):=by
         show _=_
         rw[qgh s k hlt,qk0,HR.out]
       have hbad:Hid (isD s[k]=false→qbs s.data.toList=(0,1)):=by
         intro h;unfold qbs;rw[hno.out h];rfl
       by_cases h18:1000000000000000000<m
       · go_wp2
         · go_ret2
           have hd:isD s[k]=false:=by
             unfold isD;refine decide_eq_false (fun h=>?_);have:(s[k].toNat:Int)<48∨57<(s[k].toNat:Int):=by assumption
             omega
           exact⟨by rw[hbad.out hd];rfl,0,rfl⟩
         · go_round
           case rel=>
             have hd:isD s[k]=true:=by
               unfold isD;refine decide_eq_true ?_
               assumption
             exact⟨k+1,m,true,by omega,by go_num,rfl,rfl,qb (by rw[hrs.out];unfold qc7;rw[if_pos (Or.inr h18)]),qb (by rw[hsn.out,HA.out,hd];rfl)⟩
           case measure=>simp[intOf];omega
         · go_ret2
           have hd:isD s[k]=false:=by
             unfold isD;refine decide_eq_false (fun h=>?_);have:(s[k].toNat:Int)<48:=by assumption
             omega
           exact⟨by rw[hbad.out hd];rfl,0,rfl⟩
       · cases b
         · go_wp2
           · go_ret2
             have hd:isD s[k]=false:=by
               unfold isD;refine decide_eq_false (fun h=>?_);have:(s[k].toNat:Int)<48∨57<(s[k].toNat:Int):=by assumption
               omega
             exact⟨by rw[hbad.out hd];rfl,0,rfl⟩
           · go_round
             case rel=>
               have hd:isD s[k]=true:=by
                 unfold isD;refine decide_eq_true ?_
                 assumption
               exact⟨k+1,10*m+((s[k].toNat:Int)-48),false,by omega,by go_num,rfl,rfl,qb (by rw[hrs.out];unfold qc7;rw[if_neg (by simp[h18])]),qb (by rw[hsn.out,HA.out,hd];rfl)⟩
             case measure=>simp[intOf];omega
           · go_ret2
             have hd:isD s[k]=false:=by
               unfold isD;refine decide_eq_false (fun h=>?_);have:(s[k].toNat:Int)<48:=by assumption
               omega
             exact⟨by rw[hbad.out hd];rfl,0,rfl⟩
         · go_wp2
           · go_ret2
             have hd:isD s[k]=false:=by
               unfold isD;refine decide_eq_false (fun h=>?_);have:(s[k].toNat:Int)<48∨57<(s[k].toNat:Int):=by assumption
               omega
             exact⟨by rw[hbad.out hd];rfl,0,rfl⟩
           · go_round
             case rel=>
               have hd:isD s[k]=true:=by
                 unfold isD;refine decide_eq_true ?_
                 assumption
               exact⟨k+1,m,true,by omega,by go_num,rfl,rfl,qb (by rw[hrs.out];unfold qc7;rw[if_pos (Or.inl rfl)]),qb (by rw[hsn.out,HA.out,hd];rfl)⟩
             case measure=>simp[intOf];omega
           · go_ret2
             have hd:isD s[k]=false:=by
               unfold isD;refine decide_eq_false (fun h=>?_);have:(s[k].toNat:Int)<48:=by assumption
               omega
             exact⟨by rw[hbad.out hd];rfl,0,rfl⟩
     · have hfin:Hid (qbs s.data.toList=if b=true∨9223372036854775808≤m then(0,2) else(m,0)):=by
         show _=_
         have h:=HA.out;have hr:=HR.out;rw[List.take_of_length_le (by simp;omega)]at h hr
         have hd:qhv s.data.toList=true:=by
           unfold qhv;rw[h,Bool.and_true,←Lib.toList_data,hl];rfl
         unfold qbs;rw[if_pos hd,hr]
       cases b
       · by_cases h63:9223372036854775808≤m
         · go_wp2
           go_ret2
           exact⟨by rw[hfin.out,if_pos (Or.inr h63)];rfl,0,rfl⟩
         · go_wp2
           go_ret2
           exact⟨by rw[hfin.out,if_neg (by simp[h63])];rfl,0,rfl⟩
       · go_wp2
         go_ret2
         exact⟨by rw[hfin.out,if_pos (Or.inl trivial)];rfl,0,rfl⟩
end Go.Proofs.YtdndfifkfjoffaaGreatDoor.whole
namespace Go.Proofs.YtdndfifkfjoffaaGreatDoor.lx
open Go.RowKit wd
def qb9(n:Nat):Int:=
 if n=95∨97≤n∧n≤122∨65≤n∧n≤90 then 1 else if 48≤n∧n≤57 then 2 else if n=32∨n=9∨n=10∨n=13 then 3 else if n=35 then 4 else 0
def cls(c:UInt8):Int:=qb9 c.toNat
def isL(c:UInt8):Bool:=decide (cls c=1)
def qa1(c:UInt8):Bool:=decide (cls c=2)
def qaP(c:UInt8):Bool:=isL c|| qa1 c
def qaX(c:UInt8):Bool:=!(c==10)
structure Tok where
 kind:Int
 at_:Nat
 n:Int
 text:List UInt8
def qR(l:List UInt8):Int × Int × Int × List UInt8:=
 match l with
 |[]=>(1,0,0,[])
 |c::r=>
   if cls c=1 then
     (if 32<((c::r).takeWhile qaP).length then 3 else 0,if isW ((c::r).takeWhile qaP)=true then 3 else 1,0,(c::r).takeWhile qaP)
   else if cls c=2 then
     ((whole.qbs ((c::r).takeWhile qa1)).2,2,(whole.qbs ((c::r).takeWhile qa1)).1,(c::r).takeWhile qa1)
   else if qbV ((c::r).take 2)=[] then(1,0,0,[])
   else(0,4,0,qbV ((c::r).take 2))
def Res:Type:=Int × Nat × List Tok
def qcg(t:Tok)(r:Int × Nat × List Tok):Int × Nat × List Tok:=if r.1=0 then(0,0,t::r.2.2) else r
def qaN(l:List UInt8):List UInt8:=l.dropWhile qaX
theorem qb1(l:List UInt8):(qaN l).length≤l.length:=by
 unfold qaN
 induction l with
 |nil=>simp
 |cons c r ih=>rw[List.dropWhile_cons];split<;>simp;omega
def qaA(l:List UInt8)(p:Nat):Int × Nat × List Tok:=
 match l with
 |[]=>(0,0,[⟨0,p,0,[]⟩])
 |c::r=>
   if cls c=3 then qaA r (p+1)
   else if cls c=4 then qaA (qaN r) (p+1+(r.takeWhile qaX).length)
   else if (qR (c::r)).1≠0 then((qR (c::r)).1,p,[])
   else qcg ⟨(qR (c::r)).2.1,p,(qR (c::r)).2.2.1,(qR (c::r)).2.2.2⟩ (qaA (r.drop ((qR (c::r)).2.2.2.length-1)) (p+(qR (c::r)).2.2.2.length))
termination_by l.length
decreasing_by
 · simp
 · have:=qb1 r;simp;omega
 · simp;omega
theorem qbq(p:Nat):qaA [] p=(0,0,[⟨0,p,0,[]⟩]):=by rw[qaA]
theorem qbO{c:UInt8}(h:cls c=3)(r:List UInt8)(p:Nat):qaA (c::r) p=qaA r (p+1):=by rw[qaA,if_pos h]
theorem qdn{c:UInt8}(h:cls c=4)(r:List UInt8)(p:Nat):qaA (c::r) p=qaA (qaN r) (p+1+(r.takeWhile qaX).length):=by
 rw[qaA,if_neg (by rw[h];decide),if_pos h]
theorem qdl{c:UInt8}(h3:cls c≠3)(h4:cls c≠4)(r:List UInt8)(p:Nat)(h:(qR (c::r)).1≠0):qaA (c::r) p=((qR (c::r)).1,p,[]):=by
 rw[qaA,if_neg h3,if_neg h4,if_pos h]
theorem qd3{c:UInt8}(h3:cls c≠3)(h4:cls c≠4)(r:List UInt8)(p:Nat)(h:(qR (c::r)).1=0):
   qaA (c::r) p=qcg ⟨(qR (c::r)).2.1,p,(qR (c::r)).2.2.1,(qR (c::r)).2.2.2⟩ (qaA (r.drop ((qR (c::r)).2.2.2.length-1)) (p+(qR (c::r)).2.2.2.length)):=by
 rw[qaA,if_neg h3,if_neg h4,if_neg (by simp[h])]
theorem qjD(s:List UInt8):∀(l:List (List UInt8)) (b:List UInt8),l.foldl (qD s) b=b∨(l.foldl (qD s) b∈l∧(l.foldl (qD s) b).length≤s.length∧s.take (l.foldl (qD s) b).length=l.foldl (qD s) b)
 |[],b=>Or.inl rfl
 |m::l,b=>by
   rw[List.foldl_cons];rcases qjD s l (qD s b m)with h|⟨h1,h2,h3⟩
   · rw[h];unfold qD;split
     · rename_i hc
       exact Or.inr ⟨by simp,hc.1,hc.2.1⟩
     · exact Or.inl rfl
   · exact Or.inr ⟨by simp[h1],h2,h3⟩
theorem ql5{s:List UInt8}(h:qbV s≠[]):qbV s∈qat∧(qbV s).length≤s.length∧s.take (qbV s).length=qbV s:=by
 rcases qjD s qat []with e|e
 · exact absurd e h
 · exact e
theorem qky:∀m∈qat,qbV m=m:=by decide +kernel
theorem qnw:∀m∈qat,qbV ((m++[32]).take 2)=m:=by decide +kernel
theorem qkx:∀m∈qat,∃c r,m=c::r∧cls c=0:=by
 intro m hm;have:∀m∈qat,(match m with|[]=>false|c::_=>decide (cls c=0))=true:=by decide +kernel
 have h:=this m hm
 cases m with
 |nil=>simp at h
 |cons c r=>exact⟨c,r,rfl,by simpa using h⟩
theorem qgE:∀m∈qat,1≤m.length∧m.length≤2:=by decide +kernel
end Go.Proofs.YtdndfifkfjoffaaGreatDoor.lx
namespace Go.Proofs.YtdndfifkfjoffaaGreatDoor.lx
open Go.RowKit wd
theorem qnp:qaP 32=false:=by decide
theorem qno:qa1 32=false:=by decide
theorem qgY{α:Type}(p:α→Bool)(l:List α):l.take (l.takeWhile p).length=l.takeWhile p:=by
 induction l with
 |nil=>rfl
 |cons c r ih=>rw[List.takeWhile_cons];split<;>simp[ih]
theorem qgX{α:Type}(p:α→Bool)(l:List α):(l.takeWhile p).all p=true:=by
 induction l with
 |nil=>rfl
 |cons c r ih=>rw[List.takeWhile_cons];split<;>simp_all
theorem qgZ{α:Type}(p:α→Bool)(t r:List α)(h:t.all p=true)(hr:r=[]∨∃c r',r=c::r'∧p c=false):(t++r).takeWhile p=t:=by
 induction t with
 |nil=>
   rcases hr with rfl|⟨c,r',rfl,hc⟩
   · rfl
   · rw[List.nil_append,List.takeWhile_cons,hc];rfl
 |cons a t ih=>
   simp only[List.all_cons,Bool.and_eq_true]at h;rw[List.cons_append,List.takeWhile_cons,h.1,if_pos rfl,ih h.2]
def qoE(r:List UInt8):Prop:=r=[]∨∃r',r=32::r'
theorem qgG{l:List UInt8}{k n:Int}{t:List UInt8}(h:qR l=(0,k,n,t)):
   l.take t.length=t∧t.length≤l.length∧(∃c r,t=c::r∧cls c≠3∧cls c≠4)∧∀r,qoE r→qR (t++r)=(0,k,n,t):=by
 cases l with
 |nil=>simp[qR]at h
 |cons c r=>
   unfold qR at h;by_cases h1:cls c=1
   · simp only[if_pos h1,Prod.mk.injEq]at h;obtain⟨he,hk,hn,ht⟩:=h;have hl:qaP c=true:=by unfold qaP isL;simp[h1]
     have hc:t=c::r.takeWhile qaP:=by rw[←ht,List.takeWhile_cons,hl,if_pos rfl]
     have hall:t.all qaP=true:=by rw[←ht];exact qgX _ _
     refine⟨by rw[←ht];exact qgY _ _,by rw[←ht];exact(List.takeWhile_sublist _).length_le,⟨c,_,hc,by rw[h1];decide,by rw[h1];decide⟩,fun r' hr'=>?_⟩
     have htw:(t++r').takeWhile qaP=t:=qgZ qaP t r' hall (by
       rcases hr' with rfl|⟨q,rfl⟩
       · exact Or.inl rfl
       · exact Or.inr ⟨32,q,rfl,qnp⟩)
     have e:t++r'=c::(r.takeWhile qaP++r'):=by rw[hc];rfl
     rw[ht]at he hk;rw[e]at htw;rw[e];unfold qR;simp only[if_pos h1,htw,he,hk,←hn]
   · by_cases h2:cls c=2
     · simp only[if_neg h1,if_pos h2,Prod.mk.injEq]at h;obtain⟨he,hk,hn,ht⟩:=h;have hl:qa1 c=true:=by unfold qa1;simp[h2]
       have hc:t=c::r.takeWhile qa1:=by rw[←ht,List.takeWhile_cons,hl,if_pos rfl]
       have hall:t.all qa1=true:=by rw[←ht];exact qgX _ _
       refine⟨by rw[←ht];exact qgY _ _,by rw[←ht];exact(List.takeWhile_sublist _).length_le,⟨c,_,hc,by rw[h2];decide,by rw[h2];decide⟩,fun r' hr'=>?_⟩
       have htw:(t++r').takeWhile qa1=t:=qgZ qa1 t r' hall (by
         rcases hr' with rfl|⟨q,rfl⟩
         · exact Or.inl rfl
         · exact Or.inr ⟨32,q,rfl,qno⟩)
       have e:t++r'=c::(r.takeWhile qa1++r'):=by rw[hc];rfl
       rw[ht]at he hn;rw[e]at htw;rw[e];unfold qR;simp only[if_neg h1,if_pos h2,htw,he,hn,←hk]
     · simp only[if_neg h1,if_neg h2]at h;by_cases h3:qbV ((c::r).take 2)=[]
       · rw[if_pos h3]at h;simp at h
       · rw[if_neg h3]at h;simp only[Prod.mk.injEq]at h;obtain⟨_,hk,hn,ht⟩:=h;obtain⟨m1,m2,m3⟩:=ql5 h3;rw[ht]at m1 m2 m3;obtain⟨a,q,ha,hcl⟩:=qkx t m1;have hlen:=qgE t m1
         have hpre:(c::r).take t.length=t:=by
           rw[List.take_take]at m3;rw[show min t.length 2=t.length by omega]at m3;exact m3
         have hle:t.length≤(c::r).length:=by rw[List.length_take]at m2;omega
         refine⟨hpre,hle,⟨a,q,ha,by rw[hcl];decide,by rw[hcl];decide⟩,fun r' hr'=>?_⟩
         have hm:qbV ((t++r').take 2)=t:=by
           rcases hr' with rfl|⟨q',rfl⟩
           · rw[List.append_nil,List.take_of_length_le (by omega)];exact qky t m1
           · have:(t++32::q').take 2=(t++[32]).take 2:=by
               rcases(show t.length=1∨t.length=2 by omega)with h|h
               · obtain⟨x,rfl⟩:=List.length_eq_one_iff.1 h;rfl
               · match t,h with|[x,y],_=>rfl
             rw[this];exact qnw t m1
         have e:t++r'=a::(q++r'):=by rw[ha];rfl
         rw[e]at hm;rw[e];unfold qR;have hne:t≠[]:=by rw[ha];simp
         simp only[hcl,hm,if_neg hne,←hk,←hn];rfl
def qeL:List Tok→Prop
 |[]=>False
 |[t]=>t.kind=0∧t.n=0∧t.text=[]
 |t::u::ts=>qR t.text=(0,t.kind,t.n,t.text)∧t.kind≠0∧qeL (u::ts)
theorem qme{l:List UInt8}{k n:Int}{t:List UInt8}(h:qR l=(0,k,n,t)):k=1∨k=2∨k=3∨k=4:=by
 cases l with
 |nil=>simp[qR]at h
 |cons c r=>
   unfold qR at h;simp only at h;split at h
   · simp only[Prod.mk.injEq]at h;obtain⟨_,hk,_⟩:=h;split at hk<;>omega
   · split at h
     · simp only[Prod.mk.injEq]at h;omega
     · split at h
       · simp at h
       · simp only[Prod.mk.injEq]at h;omega
theorem qlB{t:Tok}{r:Int × Nat × List Tok}{ts:List Tok}{q:Nat}(h:qcg t r=(0,q,ts)):∃us,r=(0,r.2.1,us)∧ts=t::us∧q=0:=by
 unfold qcg at h;split at h
 · rename_i h0
   simp only[Prod.mk.injEq]at h;refine⟨r.2.2,?_,h.2.2.symm,h.2.1.symm⟩;rw[←h0]
 · rename_i h0
   exact absurd (by rw[h]) h0
theorem qgD{l:List UInt8}{k n:Int}{t:List UInt8}(h:qR l=(0,k,n,t))(p:Nat):qaA l p=qcg ⟨k,p,n,t⟩ (qaA (l.drop t.length) (p+t.length)):=by
 obtain⟨h1,h2,⟨c,r,rfl,h3,h4⟩,_⟩:=qgG h
 cases l with
 |nil=>simp at h2
 |cons d l=>
   have:d=c:=by simp at h1;exact h1.1
   subst this;rw[qd3 h3 h4 l p (by rw[h]),h];simp
theorem qcx(r:List UInt8):r=r.takeWhile qaX++qaN r:=by unfold qaN;exact(List.takeWhile_append_dropWhile).symm
theorem qgu(r:List UInt8):qaN r=[]∨∃q,qaN r=10::q:=by
 unfold qaN
 induction r with
 |nil=>left;rfl
 |cons c r ih=>
   rw[List.dropWhile_cons];split
   · exact ih
   · rename_i h
     right
     have:c=10:=by unfold qaX at h;simpa using h
     exact⟨r,by rw[this]⟩
theorem qhx(b g:List UInt8)(hb:b.all qaX=true)(hg:g=[]∨∃q,g=10::q):qaN (b++g)=g∧(b++g).takeWhile qaX=b:=by
 constructor
 · unfold qaN
   induction b with
   |nil=>
     rcases hg with rfl|⟨q,rfl⟩
     · rfl
     · rfl
   |cons c b ih=>
     simp only[List.all_cons,Bool.and_eq_true]at hb;rw[List.cons_append,List.dropWhile_cons,if_pos hb.1];exact ih hb.2
 · refine qgZ qaX b g hb ?_;rcases hg with rfl|⟨q,rfl⟩
   · exact Or.inl rfl
   · exact Or.inr ⟨10,q,rfl,by decide⟩
def Gap(g:List UInt8):Prop:=∀p,qaA g p=(0,0,[⟨0,p+g.length,0,[]⟩])
theorem qer:∀(N:Nat) (l:List UInt8) (p:Nat) (ts:List Tok) (q:Nat),l.length≤N→qaA l p=(0,q,ts)→∃t us g r,ts=t::us∧l=g++r∧t.at_=p+g.length∧Gap g∧
   ((r=[]∧us=[]∧t.kind=0∧t.n=0∧t.text=[])∨(qR r=(0,t.kind,t.n,t.text)∧∃q',qaA (r.drop t.text.length) (t.at_+t.text.length)=(0,q',us)))
 |N,[],p,ts,q,_,h=>by
   rw[qbq]at h;simp only[Prod.mk.injEq]at h;obtain⟨_,_,rfl⟩:=h
   exact⟨_,_,[],[],rfl,rfl,rfl,fun p=>qbq p,Or.inl ⟨rfl,rfl,rfl,rfl,rfl⟩⟩
 |0,c::l,p,ts,q,hN,h=>by simp at hN
 |N+1,c::l,p,ts,q,hN,h=>by
   by_cases h3:cls c=3
   · rw[qbO h3]at h;obtain⟨t,us,g,r,rfl,h1,h2,h4,h5⟩:=qer N l (p+1) ts q (by simpa using hN) h;refine⟨t,us,c::g,r,rfl,by rw[h1];rfl,by rw[h2,List.length_cons];omega,fun p=>?_,h5⟩;rw[qbO h3,h4 (p+1),List.length_cons,show p+1+g.length=p+(g.length+1) by omega]
   · by_cases h4:cls c=4
     · rw[qdn h4]at h;have hlen:=qb1 l;obtain⟨t,us,g,r,rfl,h1,h2,h6,h5⟩:=qer N (qaN l) _ ts q (by simp at hN;omega) h;have hl:=qcx l
       have hg:g=[]∨∃q,g=10::q:=by
         cases g with
         |nil=>exact Or.inl rfl
         |cons a g=>
           right
           rcases qgu l with e|⟨q,e⟩
           · rw[e]at h1;simp at h1
           · rw[e]at h1;have:a=10:=by simp at h1;exact h1.1.symm
             exact⟨g,by rw[this]⟩
       obtain⟨e1,e2⟩:=qhx (l.takeWhile qaX) g (qgX _ _) hg;refine⟨t,us,c::(l.takeWhile qaX++g),r,rfl,?_,by rw[h2,List.length_cons,List.length_append];omega,fun p=>?_,h5⟩
       · rw[List.cons_append,List.append_assoc,←h1,←hl]
       · rw[qdn h4,e1,e2,h6,List.length_cons,List.length_append];rw[show p+1+(List.takeWhile qaX l).length+g.length=p+((List.takeWhile qaX l).length+g.length+1) by omega]
     · by_cases h0:(qR (c::l)).1=0
       · have hone:qR (c::l)=(0,(qR (c::l)).2.1,(qR (c::l)).2.2.1,(qR (c::l)).2.2.2):=by rw[←h0]
         rw[qgD hone]at h;obtain⟨us,h5,rfl,_⟩:=qlB h;exact⟨_,us,[],c::l,rfl,rfl,rfl,fun p=>qbq p,Or.inr ⟨hone,_,h5⟩⟩
       · rw[qdl h3 h4 l p h0]at h;simp only[Prod.mk.injEq]at h;exact absurd h.1 h0
def qjP(s:List UInt8):Nat→List Tok→Prop
 |_,[]=>True
 |e,t::ts=>e≤t.at_∧t.at_+t.text.length≤s.length∧(s.drop t.at_).take t.text.length=t.text∧Gap ((s.drop e).take (t.at_-e))∧qjP s (t.at_+t.text.length) ts
theorem qhV(s:List UInt8):∀(N:Nat) (e:Nat) (ts:List Tok) (q:Nat),s.length-e≤N→e≤s.length→qaA (s.drop e) e=(0,q,ts)→qjP s e ts∧qeL ts:=by
 intro N
 induction N with
 |zero=>
   intro e ts q hN he h;have:s.drop e=[]:=List.drop_eq_nil_of_le (by omega);rw[this,qbq]at h;simp only[Prod.mk.injEq]at h;obtain⟨_,_,rfl⟩:=h;refine⟨⟨Nat.le_refl _,by simpa using he,by simp,?_,trivial⟩,rfl,rfl,rfl⟩
   rw[Nat.sub_self,List.take_zero];exact fun p=>qbq p
 |succ N ih=>
   intro e ts q hN he h;obtain⟨t,us,g,r,rfl,h1,h2,h3,h4⟩:=qer _ _ _ _ _ qe h;have hg:(s.drop e).take (t.at_-e)=g:=by rw[h1,h2,show e+g.length-e=g.length by omega];exact List.take_left
   have hr:s.drop t.at_=r:=by rw[h2,←List.drop_drop,h1];exact List.drop_left
   have hlen:e+g.length+r.length=s.length:=by
     have:=congrArg List.length h1;rw[List.length_drop,List.length_append]at this;omega
   rcases h4 with⟨rfl,rfl,k0,n0,t0⟩|⟨h5,q',h6⟩
   · refine⟨⟨by omega,by rw[t0];simp at hlen ⊢;omega,by rw[t0];rfl,by rw[hg];exact h3,trivial⟩,k0,n0,t0⟩
   · obtain⟨o1,o2,⟨c,x,ht,_⟩,o4⟩:=qgG h5;have hpos:1≤t.text.length:=by rw[ht];simp
     rw[←hr,List.drop_drop]at h6;obtain⟨h7,h8⟩:=ih _ us q' (by omega) (by omega) h6;refine⟨⟨by omega,by omega,by rw[hr];exact o1,by rw[hg];exact h3,h7⟩,?_⟩
     cases us with
     |nil=>exact h8.elim
     |cons u us=>
       refine⟨?_,?_,h8⟩
       · have:=o4 [] (Or.inl rfl)
         rwa [List.append_nil]at this
       · rcases qme h5 with h|h|h|h<;>omega
end Go.Proofs.YtdndfifkfjoffaaGreatDoor.lx
namespace Go.Proofs.YtdndfifkfjoffaaGreatDoor.lx
open Go.RowKit wd
theorem qdm:∀(N:Nat) (l:List UInt8) (p:Nat),l.length≤N→(qaA l p).2.2.length≤l.length+1
 |N,[],p,_=>by rw[qbq];exact Nat.le_refl _
 |0,c::l,p,h=>by simp at h
 |N+1,c::l,p,h=>by
   have hl:l.length≤N:=by simpa using h
   have hd:=qb1 l;by_cases h3:cls c=3
   · rw[qbO h3];have:=qdm N l (p+1) hl;rw[List.length_cons];omega
   · by_cases h4:cls c=4
     · rw[qdn h4];have:=qdm N (qaN l) (p+1+(l.takeWhile qaX).length) (by omega);rw[List.length_cons];omega
     · by_cases hb:(qR (c::l)).1=0
       · rw[qd3 h3 h4 l p hb];have:=qdm N (l.drop ((qR (c::l)).2.2.2.length-1)) (p+(qR (c::l)).2.2.2.length) (by rw[List.length_drop];omega);rw[List.length_drop]at this;unfold qcg;split
         · show(_::_:List Tok).length≤_
           rw[List.length_cons,List.length_cons];omega
         · rw[List.length_cons];omega
       · rw[qdl h3 h4 l p hb];simp
def qfP(l:List UInt8):Int × Nat × List Tok:=if 16384<l.length then(3,16384,[]) else qaA l 0
theorem qb3{l:List UInt8}(h:l.length≤16384):qfP l=qaA l 0:=if_neg (by omega)
theorem ql3{l:List UInt8}(h:16384<l.length):qfP l=(3,16384,[]):=if_pos h
end Go.Proofs.YtdndfifkfjoffaaGreatDoor.lx
namespace Go.Proofs.YtdndfifkfjoffaaGreatDoor.nt
open Go.RowKit wd lx
inductive NT where
 |mk(k a n:Int)(s:List UInt8)(l:List NT)
def NT.kind:NT→Int|.mk k _ _ _ _=>k
def NT.at_:NT→Int|.mk _ a _ _ _=>a
def NT.num:NT→Int|.mk _ _ n _ _=>n
def NT.name:NT→List UInt8|.mk _ _ _ s _=>s
def NT.kids:NT→List NT|.mk _ _ _ _ l=>l
mutual
theorem NT.ind{P:NT→Prop}(h:∀k a n s l,(∀u∈l,P u)→P (.mk k a n s l)):∀t,P t
 |.mk k a n s l=>h k a n s l (NT.indL h l)
theorem NT.indL{P:NT→Prop}(h:∀k a n s l,(∀u∈l,P u)→P (.mk k a n s l)):∀(l:List NT),∀u∈l,P u
 |[]=>fun u hu=>by cases hu
 |v::r=>List.forall_mem_cons.2 ⟨NT.ind h v,NT.indL h r⟩
end
mutual
def NT.size:NT→Nat
 |.mk _ _ _ _ l=>qig l+1
def qig:List NT→Nat
 |[]=>0
 |v::r=>v.size+qig r
end
mutual
def NT.walk:NT→List NT
 |.mk k a n s l=>.mk k a n s l::qn7 l
def qn7:List NT→List NT
 |[]=>[]
 |v::r=>v.walk++qn7 r
end
def named(s:List UInt8):Bool:=
 match qfP s with
 |(e,_,ts)=>decide (e=0)&&(match ts with|[t,_]=>decide (t.kind=1)&&decide (t.text=s)|_=>false)
def qe4(n:Int)(s:List UInt8):Bool:=decide (n=0)&&s.isEmpty
mutual
def NT.typ:NT→Bool
 |.mk k _ n s l=>if n≠0 then false else if k=4 then named s&&l.isEmpty else if s≠[] then false else if k=5 then qoP l else decide (1≤k)&&decide (k≤3)&&l.isEmpty
def qoP:List NT→Bool
 |[v]=>v.typ
 |_=>false
end
def qlK(k n:Int)(s:List UInt8)(many:Nat):Bool:=
 if k=10∨k=11 then decide (many=0)&&s.isEmpty&&decide (0≤n)&&(decide (k=10)|| decide (n≤1))
 else if k=15 then decide (many=1)&&s.isEmpty&&(decide (n=2)|| decide (n=14))
 else if k=16 then decide (many=2)&&s.isEmpty&&decide (0<qau n)
 else if k=13 then decide (many=2)&&qe4 n s
 else if n≠0∨named s=false then false
 else(decide (k=12)&&decide (many=0))|| (decide (k=14)&&decide (many=1))|| decide (k=17)|| decide (k=18)
mutual
def NT.expr:NT→Bool
 |.mk k _ n s l=>if k=19 then qe4 n s&&qoS l else qlL l&&qlK k n s l.length
def qlL:List NT→Bool
 |[]=>true
 |v::r=>v.expr&&qlL r
def qoS:List NT→Bool
 |[]=>false
 |v::r=>v.typ&&qlL r
end
mutual
def NT.place:NT→Bool
 |.mk k a n s l=>(NT.mk k a n s l).expr&&(decide (k=12)|| ((decide (k=13)|| decide (k=14))&&qoq l))
def qoq:List NT→Bool
 |[]=>false
 |v::_=>v.place
end
def qn1:List NT→Bool
 |[v]=>v.expr
 |_=>false
def do1:List NT→Bool
 |[v]=>decide (v.kind=17)&&v.expr
 |_=>false
def qoT:List NT→Bool
 |[u,v]=>u.place&&v.expr
 |_=>false
mutual
def NT.stmt:NT→Bool
 |.mk k _ n s l=>
   if k=31∨k=36 then(if n≠0∨named s=false then false else(decide (k=36)&&l.isEmpty)|| (decide (k=31)&&qn1 l))
   else if qe4 n s=false then false
   else if k=30 then qn4 l
   else if k=35∧l.length=0 then true
   else if k=35∨k=37 then qn1 l
   else if k=38 then do1 l
   else if k=32 then qoT l
   else if k=33∨k=34 then ifH (decide (k=33)) l
   else false
def qn4:List NT→Bool
 |[]=>true
 |v::r=>v.stmt&&qn4 r
def ifH:Bool→List NT→Bool
 |_,[]=>false
 |b,u::r=>u.expr&&ifL b r
def ifL:Bool→List NT→Bool
 |_,[]=>false
 |_,[v]=>decide (v.kind=30)&&v.stmt
 |b,v::u::[]=>decide (v.kind=30)&&v.stmt&&(b&&((decide (u.kind=30)&&u.stmt)|| (decide (u.kind=33)&&u.stmt)))
 |_,_::_::_::_=>false
end
def qfv(t:NT):Bool:=decide (t.kind=50)&&decide (t.num=0)&&named t.name&&qoP t.kids
def NT.blk(t:NT):Bool:=decide (t.kind=30)&&t.stmt
def NT.answer(t:NT):Bool:=t.typ|| (decide (t.kind=0)&&qe4 t.num t.name&&t.kids.isEmpty)
def NT.decl(t:NT):Bool:=
 if named t.name=false∨t.kids=[] then false
 else if t.kind=52 then(decide (0≤t.num)&&(match t.kids with|[v]=>v.typ|[v,u]=>v.typ&&(decide (u.kind=12)&&u.expr)|_=>false))
 else if t.num≠0 then false
 else if t.kind=51 then t.kids.all qfv
 else if t.kind=54 then(match t.kids with|[a,b,c,d]=>qfv a&&qfv b&&qfv c&&d.blk|_=>false)
 else if t.kind=53 then decide (2≤t.kids.length)&&(t.kids.take (t.kids.length-2)).all qfv&&(match t.kids.drop (t.kids.length-2)with|[a,b]=>a.answer&&b.blk|_=>false)
 else false
def NT.prog(t:NT):Bool:=
 decide (t.kind=55)&&qe4 t.num t.name&&(match t.kids.getLast? with|some b=>b.blk|none=>false)&&(t.kids.dropLast).all NT.decl
end Go.Proofs.YtdndfifkfjoffaaGreatDoor.nt
namespace Go.Proofs.YtdndfifkfjoffaaGreatDoor.mem
open Go.RowKit
def qb6(B size:Nat)(w:World)(v:Value)(n:Nat)(xs:List Value):Prop:=
 xs.length=n*size∧∃A cap,v=.slice A n cap∧(0<n→∃b off,A=some ⟨b,off,none⟩∧b<B∧∀j u,xs[j]?=some u→w.cell? ⟨b,off+j,none⟩=some u)
theorem qb6.keep{B size n:Nat}{w w':World}{v:Value}{xs:List Value}(h:qb6 B size w v n xs)(hk:∀b o,b<B→w'.cell? ⟨b,o,none⟩=w.cell? ⟨b,o,none⟩):qb6 B size w' v n xs:=by
 obtain⟨h1,A,cap,hv,hc⟩:=h;refine⟨h1,A,cap,hv,fun hn=>?_⟩;obtain⟨b,off,hA,hb,hc⟩:=hc hn;exact⟨b,off,hA,hb,fun j u hu=>(hk b _ hb).trans (hc j u hu)⟩
theorem qb6.below{B size n:Nat}{w w':World}{v:Value}{xs:List Value}(h:qb6 B size w v n xs)(hb:Below B w w'):qb6 B size w' v n xs:=
 h.keep fun b o hlt=>hb.cell (p:=⟨b,o,none⟩) hlt
theorem qb6.more{B B' size n:Nat}{w:World}{v:Value}{xs:List Value}(h:qb6 B size w v n xs)(hB:B≤B'):qb6 B' size w v n xs:=by
 obtain⟨h1,A,cap,hv,hc⟩:=h;refine⟨h1,A,cap,hv,fun hn=>?_⟩;obtain⟨b,off,hA,hb,hc⟩:=hc hn;exact⟨b,off,hA,by omega,hc⟩
theorem qb6.of_own{base size n:Nat}{e:TypeId}{w:World}{v:Value}{xs:List Value}(h:w.ownsRow base e size v n xs):qb6 w.heap.size size w v n xs:=by
 refine⟨h.1,?_⟩;rcases h.2 with⟨rfl,rfl⟩|⟨g,cap,cur,rfl,hb,hg,hnc,hcm,hcs,htake⟩
 · exact⟨none,0,rfl,fun hn=>absurd hn (by omega)⟩
 · have hlt:g<w.heap.size:=(Array.getElem?_eq_some_iff.1 hg).1;refine⟨_,cap,rfl,fun _=>⟨g,0,rfl,hlt,fun j u hu=>?_⟩⟩;rw[Nat.zero_add,cell_of_row w g j cur e (0,0) hg];rw[←htake,List.getElem?_take]at hu;split at hu
   · simpa using hu
   · cases hu
theorem qjE(w:World)(x:Value)(t:TypeId):∀j u,[x][j]?=some u→(w.alloc (.cells #[x] t)).cell? ((⟨w.heap.size,0,none⟩:Addr).add j)=some u:=by
 intro j u hj
 match j,hj with
 |0,hj=>simp at hj;subst hj;simp[Addr.add]
 |j+1,hj=>simp at hj
theorem qb6.form{B size n:Nat}{w:World}{v:Value}{xs:List Value}(h:qb6 B size w v n xs):∃A cap,v=.slice A n cap:=by
 obtain⟨_,A,cap,hv,_⟩:=h;exact⟨A,cap,hv⟩
def Got(B:Nat)(e:TypeId)(size n:Nat)(xs:List Value)(v:Value)(w0 w:World):Prop:=w.ownsRow B e size v n xs∧Below B w0 w
theorem Got.nil_(B:Nat)(e:TypeId)(size:Nat)(w:World):Got B e size 0 [] (.slice none 0 0) w w:=⟨World.ownsRow_nil _ _ _ _,Below.refl _ _⟩
theorem Got.app{B size n m:Nat}{e:TypeId}{xs ys:List Value}{v v':Value}{w0 w w1:World}{o:Obj}(h:Got B e size n xs v w0 w)(hB:B≤w.heap.size)
   (ho:w1.ownsRow B e size v' m ys)(hg:(w.alloc o).grownBy w1 v.ownBlock):Got B e size m ys v' w0 w1:=
 ⟨ho,(h.2.alloc hB _).grown hg (by simp;omega) (fun g hv=>(h.1.lt g hv).1)⟩
theorem Got.drew{B size n:Nat}{e:TypeId}{xs:List Value}{v:Value}{w0 w:World}(h:Got B e size n xs v w0 w):Got B e size n xs v w0 w.drew:=⟨h.1.drew,h.2.drew⟩
theorem Got.drewN{B size n:Nat}{e:TypeId}{xs:List Value}{v:Value}{w0 w:World}(h:Got B e size n xs v w0 w)(k:Nat):Got B e size n xs v w0 (w.drewN k):=⟨h.1,below_drewN h.2 k⟩
theorem Got.sees{B size n:Nat}{e:TypeId}{xs:List Value}{v:Value}{w0 w:World}(h:Got B e size n xs v w0 w):qb6 w.heap.size size w v n xs:=qb6.of_own h.1
end Go.Proofs.YtdndfifkfjoffaaGreatDoor.mem
namespace Go.Proofs.YtdndfifkfjoffaaGreatDoor.ne
open Go.RowKit mem
structure Tk where
 kind:Int
 at_:Int
 n:Int
 text:List UInt8
def tkV(t:Tk):List Value:=[.int .i64 t.kind,.int .i64 t.at_,.int .i64 t.n,.string ⟨t.text.toArray⟩]
def qav(l:List Tk):List Value:=l.flatMap tkV
theorem qdv(t:Tk)(l:List Tk):qav (t::l)=tkV t++qav l:=rfl
theorem qda(a b:List Tk):qav (a++b)=qav a++qav b:=by unfold qav;rw[List.flatMap_append]
theorem qmQ(t:Tk):qav [t]=tkV t:=by unfold qav;simp
theorem qfI(l:List Tk):(qav l).length=l.length*4:=by
 induction l with
 |nil=>rfl
 |cons t l ih=>rw[qdv,List.length_append,ih,List.length_cons];show 4+_=_;omega
theorem qdu:∀(l:List Tk) (k j:Nat) (h:k<l.length),j<4→(qav l)[k*4+j]?=(tkV l[k])[j]?
 |t::l,0,j,_,hj=>by
   rw[qdv,List.getElem?_append_left (by show _<4;omega)]
   simp
 |t::l,k+1,j,h,hj=>by
   rw[qdv,List.getElem?_append_right (by show 4≤_;omega),show(k+1)*4+j-(tkV t).length=k*4+j by show _-4=_;omega];exact qdu l k j (by simpa using h) hj
def qb7(B:Nat)(w:World)(l:List Tk)(v:Value):Prop:=qb6 B 4 w v l.length (qav l)
theorem qb7.below{B:Nat}{w w':World}{l:List Tk}{v:Value}(h:qb7 B w l v)(hb:Below B w w'):qb7 B w' l v:=qb6.below h hb
theorem qb7.more{B B':Nat}{w:World}{l:List Tk}{v:Value}(h:qb7 B w l v)(hB:B≤B'):qb7 B' w l v:=qb6.more h hB
theorem qb7.form{B:Nat}{w:World}{l:List Tk}{v:Value}(h:qb7 B w l v):∃A c,v=.slice A l.length c:=by
 obtain⟨_,A,c,hv,_⟩:=h;exact⟨A,c,hv⟩
theorem qb7.cells{B:Nat}{w:World}{l:List Tk}{A:Option Addr}{n c:Nat}(h:qb7 B w l (.slice A n c))(h0:0<l.length):∃b off,A=some ⟨b,off,none⟩∧b<B∧∀k (hk:k<l.length),
   w.cell? ⟨b,off+k*4,none⟩=some (.int .i64 l[k].kind)∧w.cell? ⟨b,off+k*4+1,none⟩=some (.int .i64 l[k].at_)∧w.cell? ⟨b,off+k*4+2,none⟩=some (.int .i64 l[k].n)∧w.cell? ⟨b,off+k*4+3,none⟩=some (.string ⟨l[k].text.toArray⟩):=by
 obtain⟨_,A',c',hv,hc⟩:=h;injection hv with hA hn hcc
 subst hA;obtain⟨b,off,hA,hb,hcc⟩:=hc h0;refine⟨b,off,hA,hb,fun k hk=>⟨?_,?_,?_,?_⟩⟩
 · exact hcc (k*4) _ ((qdu l k 0 hk (by omega)).trans rfl)
 · have:=hcc (k*4+1) _ ((qdu l k 1 hk (by omega)).trans rfl);rw[←Nat.add_assoc]at this;exact this
 · have:=hcc (k*4+2) _ ((qdu l k 2 hk (by omega)).trans rfl);rw[←Nat.add_assoc]at this;exact this
 · have:=hcc (k*4+3) _ ((qdu l k 3 hk (by omega)).trans rfl);rw[←Nat.add_assoc]at this;exact this
end Go.Proofs.YtdndfifkfjoffaaGreatDoor.ne

/- What the rows' list of variables gives: package word's two tables; a start that meets them. (and what it stands on) -/
import Derived.Test.YtdndfifkfjoffaaGreatDoorCards
import Derived.Test.YtdndfifkfjoffaaGreatDoorTie
import Derived.Test.YtdndfifkfjoffaaGreatDoorZah
import Derived.Lib.LaidU8
import Derived.ProofKit
import Derived.OpenShut
import Derived.LaidMore
import Derived.WalkSmall
import Derived.MakeChecks
import Derived.Deep.DeepHandedRow
import Derived.Deep.DeepWitnessRowRef
import Derived.Test.YtdndfifkfjoffaaGreatDoorZau
import Derived.Lay
import Derived.Test.YtdndfifkfjoffaaGreatDoorZaa
set_option maxRecDepth 100000
set_option maxHeartbeats 4000000
namespace Go.Proofs.YtdndfifkfjoffaaGreatDoor.wd
open Go.ChangeShapes Go.WideShapes Go.ChangeAt Go.RowKit
theorem qoc:Tryz.prog.globalNamed "marline/word.words" =some 1:=by kernel_rfl
theorem qiQ:(Tryz.prog.globals[1]?).map (·.type)=some 147:=by kernel_rfl
theorem qnh:Tryz.prog.globalNamed "marline/word.spellings" =some 0:=by kernel_rfl
theorem qhJ:(Tryz.prog.globals[0]?).map (·.type)=some 133:=by kernel_rfl
theorem qhp:Tryz.prog.cellsOf 9=1:=by kernel_rfl
theorem qiC:Tryz.prog.cellsOf 147=20:=by kernel_rfl
theorem qho:Tryz.prog.cellsOf 133=25:=by kernel_rfl
def qdt(l:List (List UInt8)):DataW Unit:=.agg (l.map fun s=>.lit (.string s))
theorem qe9{w:World}{fuel:Nat}{t e:TypeId}{n:Nat}{cs:List Value}{l:List (List UInt8)}{p:List MemPlace}(ht:Tryz.prog.underlying t=some (.array n e))(he:Tryz.prog.underlying e=some .string)(hce:Tryz.prog.cellsOf e=1)(hl:l.length=n)(hn:cs.length=n)
   (h:DataW.trod (fun _=>()) Tryz.prog w 0 (fun _=>true) false fuel t cs=some (qdt l,p)):cs=qbz l:=by
 apply List.ext_getElem?;intro i;by_cases hi:i<n
 · obtain⟨fuel',d,q,hd,hf⟩:=Lib.array_elem ht h i hi;rw[hce,Nat.mul_one]at hf;obtain⟨s,h1,h2,_⟩:=DataW.trod_string he hf;have hil:i<l.length:=by omega
   have e1:cs[i]?=some (.string s):=by
     have:=congrArg (·[0]?) h1;simpa [List.getElem?_take,List.getElem?_drop]using this
   rw[e1,qds l i hil];rw[List.getElem?_map,List.getElem?_eq_getElem hil,Option.map_some]at hd;have h3:=Option.some.inj hd;have h4:d=.lit (.string s.data.toList):=congrArg Prod.fst h2;rw[h4]at h3;injection h3 with h3
   injection h3 with h3
   rw[h3]
 · rw[List.getElem?_eq_none (by omega),List.getElem?_eq_none (by rw[qik];omega)]
theorem qjp:(Rows.laid_marline_word_words:DataW Unit)=qdt qaf:=by kernel_rfl
theorem qii:(Rows.laid_marline_word_spellings:DataW Unit)=qdt qdr:=by kernel_rfl
theorem qmN{W:World}{name:String}{g n:Nat}{t:TypeId}{l:List (List UInt8)}(hg:Tryz.prog.globalNamed name=some g)(hty:(Tryz.prog.globals[g]?).map (·.type)=some t)(ht:Tryz.prog.underlying t=some (.array n 9))(hct:Tryz.prog.cellsOf t=n)(hl:l.length=n)
   (h:Lib.VarReads Tryz.prog W name (qdt l)):qdB W g l:=by
 obtain⟨g',t',cs,fuel,p,hg',hty',hvar,hd⟩:=h;obtain rfl:=Option.some.inj (hg.symm.trans hg');obtain rfl:=Option.some.inj (hty.symm.trans hty')
 have hn:cs.toList.length=n:=by
   have h2:=hd
   cases fuel with
   |zero=>simp[DataW.trod]at h2
   |succ fuel=>
     simp only[DataW.trod,ht]at h2;split at h2
     · rename_i hc
       simp at hc;simp only[Array.length_toList];have hce:=qhp;omega
     · cases h2
 have e:=qe9 ht Tryz.underlying9 qhp hl hn hd;unfold World.var? at hvar;simp only[hg,Option.bind_some]at hvar;split at hvar
 · rename_i cs' t0 fr heq
   obtain rfl:=Option.some.inj hvar;exact⟨t0,fr,by rw[heq,←e]⟩
 · cases hvar
theorem qm1{W:World}(h1:Lib.VarReads Tryz.prog W "marline/word.words" Rows.laid_marline_word_words)(h2:Lib.VarReads Tryz.prog W "marline/word.spellings" Rows.laid_marline_word_spellings):LD W:=by
 rw[qjp]at h1;rw[qii]at h2;exact⟨qmN qoc qiQ Tryz.underlying147 qiC rfl h1,qmN qnh qhJ Tryz.underlying133 qho rfl h2⟩
end Go.Proofs.YtdndfifkfjoffaaGreatDoor.wd
namespace Go.Proofs.YtdndfifkfjoffaaGreatDoor.pm.cs
open Go.ChangeShapes Go.WideShapes Go.ChangeAt Go.RowKit
theorem own:ownKnob Tryz.prog.godebug=none:=by kernel_rfl
abbrev qdJ:List (String × DataW Unit):=Rows.stmtFirstRow.laid
theorem qnu{W:World}(h:laidMetH Tryz.prog qdJ W):LD W:=by
 rw[MakeChecks.laidMetH_plain _ _ _ (by kernel_rfl)]at h;have h1:=Lib.laidMet.reads h (n:= "marline/word.words") (d:=Rows.laid_marline_word_words) (by simp[qdJ,Rows.stmtFirstRow]);have h2:=Lib.laidMet.reads h (n:= "marline/word.spellings") (d:=Rows.laid_marline_word_spellings) (by simp[qdJ,Rows.stmtFirstRow]);exact wd.qm1 h1 h2
theorem qlF(os:Os)(args:Array Value):laidMetH Tryz.prog qdJ ((World.laidAll Tryz.prog os qdJ).forCall (fun _ _=>0) ⟨#[],args,[]⟩).memory:=by
 rw[MakeChecks.laidMetH_plain _ _ _ (by kernel_rfl)];exact laidMet_laidAll _ (by kernel_rfl) (by kernel_rfl)
end Go.Proofs.YtdndfifkfjoffaaGreatDoor.pm.cs

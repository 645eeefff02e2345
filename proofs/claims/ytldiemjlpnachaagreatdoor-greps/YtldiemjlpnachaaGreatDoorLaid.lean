import Derived.Test.YtldiemjlpnachaaGreatDoorMem
import Derived.Lib.LaidTab
import Derived.Test.YtldiemjlpnachaaGreatDoorRRead
namespace Go.Proofs.YtldiemjlpnachaaGreatDoor
open Go.RowKit
theorem cells_of_strs{H:Type}{enc:TypeId×Value->H}{P:Program}{w:World}{base:Nat}{sp:Nat->Bool}{held:Bool}{fuel:Nat}{t e:TypeId}{n:Nat}{cs:List Value}{zs:List (List UInt8)}{p:List MemPlace}
  (ht:P.underlying t=some (.array n e))(he:P.underlying e=some .string)(hce:P.cellsOf e=1)(hct:P.cellsOf t=n)
  (h:DataW.trod enc P w base sp held fuel t cs=some (.agg (zs.map fun z=> .lit (.string z)),p)):cs=zs.map fun z=>Value.string ⟨z.toArray⟩:=by
 cases fuel with
 |zero=>simp[DataW.trod]at h
 |succ fuel=>
  simp only[DataW.trod,ht,hce,hct,Nat.mul_one]at h
  split at h
  ·rename_i hl
   obtain⟨xs,hm,hx⟩:=Option.map_eq_some_iff.1 h
   have hxs:xs.map (·.1)=zs.map fun z=>(DataW.lit (.string z):DataW H):=by
    have:=congrArg Prod.fst hx
    simpa using this
   have hxl:xs.length=n:=by simpa using Lib.mapM_length hm
   have hzl:zs.length=n:=by
    have:=congrArg List.length hxs
    simp at this
    omega
   apply List.ext_getElem?
   intro i
   by_cases hi:i<n
   ·obtain⟨b,hb,hf⟩:=Lib.mapM_at hm i i (by simp[hi])
    obtain⟨z,hc,rfl,_⟩:=DataW.trod_string he hf
    have h1:cs[i]?=some (.string z):=by
     have:=congrArg (·[0]?) hc
     simpa[List.getElem?_take,List.getElem?_drop]using this
    have h2:(xs.map (·.1))[i]?=some (DataW.lit (.string z.data.toList):DataW H):=by simp[hb]
    rw[hxs]at h2
    simp only[List.getElem?_map,Option.map_eq_some_iff,DataW.lit.injEq,Lit.string.injEq]at h2
    obtain⟨z',hz',rfl⟩:=h2
    simp[h1,hz']
   ·rw[List.getElem?_eq_none (by omega),List.getElem?_eq_none (by simp;omega)]
  ·cases h
def nameTexts:List (List UInt8):= [[91,58,97,108,112,104,97,58,93],[91,58,100,105,103,105,116,58,93],[91,58,97,108,110,117,109,58,93],[91,58,117,112,112,101,114,58,93],[91,58,108,111,119,101,114,58,93],[91,58,115,112,97,99,101,58,93]]
theorem gNames:Tryz.prog.globalNamed "bre/syntax.classNames" =some 4:=by kernel_rfl
theorem gNamesType:(Tryz.prog.globals[4]?).map (·.type)=some 200:=by kernel_rfl
theorem uNames:Tryz.prog.underlying 200=some (.array 6 9):=by kernel_rfl
theorem uString:Tryz.prog.underlying 9=some .string:=by kernel_rfl
theorem cNames:Tryz.prog.cellsOf 200=6:=by kernel_rfl
theorem cString:Tryz.prog.cellsOf 9=1:=by kernel_rfl
theorem names_of_laid{W:World}{rest:List (String×DataW Unit)}(h:laidMet Tryz.prog (("bre/syntax.classNames",Rows.laid_bre_syntax_classNames)::rest) W):NamesIn W:=by
 obtain⟨ps,⟨g',t',cs,fuel,p,q,hg',ht',hvar,hd,_,_⟩,_⟩:=h
 obtain rfl:=Option.some.inj (gNames.symm.trans hg')
 obtain rfl:=Option.some.inj (gNamesType.symm.trans ht')
 have hcs:=cells_of_strs (zs:=nameTexts) uNames uString cString cNames hd
 obtain rfl:cs=(nameTexts.map fun z=>Value.string ⟨z.toArray⟩).toArray:=by cases cs;simp_all
 have hc:=World.var?_cell gNames hvar
 exact⟨hc 0,hc 1,hc 2,hc 3,hc 4,hc 5⟩
end Go.Proofs.YtldiemjlpnachaaGreatDoor
namespace Go.Proofs.YtldiemjlpnachaaGreatDoor
open Go.RowKit
theorem cells_of_pairs{H:Type}{enc:TypeId×Value->H}{P:Program}{w:World}{base:Nat}{sp:Nat->Bool}{held:Bool}{fuel:Nat}{t e k:TypeId}{n:Nat}{cs:List Value}{zs:List (List (List UInt8))}{p:List MemPlace}
  (ht:P.underlying t=some (.array n e))(he:P.underlying e=some (.array 2 k))(hk:P.underlying k=some .string)(hck:P.cellsOf k=1)(hce:P.cellsOf e=2)(hct:P.cellsOf t=n*2)
  (h:DataW.trod enc P w base sp held fuel t cs=some (.agg (zs.map fun z=> .agg (z.map fun y=> .lit (.string y))),p)):∀i z,zs[i]?=some z->(cs.drop (i*2)).take 2=z.map fun y=>Value.string ⟨y.toArray⟩:=by
 cases fuel with
 |zero=>simp[DataW.trod]at h
 |succ fuel=>
  simp only[DataW.trod,ht,hce,hct]at h
  split at h
  ·obtain⟨xs,hm,hx⟩:=Option.map_eq_some_iff.1 h
   have hxs:xs.map (·.1)=zs.map fun z=>(DataW.agg (z.map fun y=> .lit (.string y)):DataW H):=by
    have:=congrArg Prod.fst hx
    simpa using this
   have hxl:xs.length=n:=by simpa using Lib.mapM_length hm
   have hzl:zs.length=n:=by
    have:=congrArg List.length hxs
    simp at this
    omega
   intro i z hz
   have hi:i<n:=by rw[<-hzl];exact(List.getElem?_eq_some_iff.1 hz).1
   obtain⟨b,hb,hf⟩:=Lib.mapM_at hm i i (by simp[hi])
   have h2:(xs.map (·.1))[i]?=some b.1:=by simp[hb]
   rw[hxs]at h2
   simp only[List.getElem?_map,hz,Option.map_some,Option.some.injEq]at h2
   obtain⟨b1,b2⟩:=b
   simp only at h2
   subst h2
   exact cells_of_strs he hk hck (by rw[hce]) hf
  ·cases h
def clsTexts:List (List (List UInt8)):=(nmL.zip bsL).map fun x=> [x.1.data.toList,x.2.data.toList]
theorem gCls:Tryz.prog.globalNamed "bre/breref.classes" =some 1:=by kernel_rfl
theorem gClsType:(Tryz.prog.globals[1]?).map (·.type)=some 191:=by kernel_rfl
theorem uCls:Tryz.prog.underlying 191=some (.array 6 190):=by kernel_rfl
theorem uPair:Tryz.prog.underlying 190=some (.array 2 9):=by kernel_rfl
theorem cCls:Tryz.prog.cellsOf 191=6*2:=by kernel_rfl
theorem cPair:Tryz.prog.cellsOf 190=2:=by kernel_rfl
theorem pair_at{cs:List Value}{i:Nat}{a b:Value}(h:(cs.drop (i*2)).take 2= [a,b]):cs[i*2]?=some a/\cs[i*2+1]?=some b:=by
 have h0:=congrArg (·[0]?) h
 have h1:=congrArg (·[1]?) h
 simp[List.getElem?_drop]at h0 h1
 exact⟨h0,h1⟩
theorem classes_of_laid{W:World}{x:String×DataW Unit}{rest:List (String×DataW Unit)}(h:laidMet Tryz.prog (x::("bre/breref.classes",Rows.laid_bre_breref_classes)::rest) W):ClsW W:=by
 obtain⟨ps,⟨_,_,_,_,_,q,_,_,_,_,⟨g',t',cs,fuel,p,q',hg',ht',hvar,hd,_,_⟩,_⟩,_⟩:=h
 obtain rfl:=Option.some.inj (gCls.symm.trans hg')
 obtain rfl:=Option.some.inj (gClsType.symm.trans ht')
 have hcs:=cells_of_pairs (zs:=clsTexts) uCls uPair uString cString cPair cCls hd
 have hh:∃t fr,W.heap[1]?=some (.cells cs t fr):=by
  simp only[World.var?,gCls,Option.bind_some]at hvar
  split at hvar
  ·rename_i c t fr e
   cases hvar
   exact⟨t,fr,e⟩
  ·cases hvar
 obtain⟨t,fr,hh⟩:=hh
 refine⟨cs,t,fr,hh,fun i hi=>?_⟩
 have e:∀k v,cs.toList[k]?=some v->cs[k]?=some v:=fun k v hk=>by rw[<-Array.getElem?_toList];exact hk
 have c0:=pair_at (hcs 0 _ rfl)
 have c1:=pair_at (hcs 1 _ rfl)
 have c2:=pair_at (hcs 2 _ rfl)
 have c3:=pair_at (hcs 3 _ rfl)
 have c4:=pair_at (hcs 4 _ rfl)
 have c5:=pair_at (hcs 5 _ rfl)
 rcases(show i=0\/i=1\/i=2\/i=3\/i=4\/i=5\/i=6\/i=7\/i=8\/i=9\/i=10\/i=11 by omega)with rfl|rfl|rfl|rfl|rfl|rfl|rfl|rfl|rfl|rfl|rfl|rfl
 ·exact e _ _ c0.1
 ·exact e _ _ c0.2
 ·exact e _ _ c1.1
 ·exact e _ _ c1.2
 ·exact e _ _ c2.1
 ·exact e _ _ c2.2
 ·exact e _ _ c3.1
 ·exact e _ _ c3.2
 ·exact e _ _ c4.1
 ·exact e _ _ c4.2
 ·exact e _ _ c5.1
 ·exact e _ _ c5.2
def layObj(cs:Array Value):Obj->Obj
 | .cells _ t frozen=> .cells cs t frozen
 |o=>o
end Go.Proofs.YtldiemjlpnachaaGreatDoor

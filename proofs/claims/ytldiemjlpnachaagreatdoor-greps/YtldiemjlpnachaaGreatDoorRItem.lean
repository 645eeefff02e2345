import Derived.Test.YtldiemjlpnachaaGreatDoorBks
import Derived.Test.YtldiemjlpnachaaGreatDoorRStr
import Derived.Test.YtldiemjlpnachaaGreatDoorSize
import Derived.Laws.Tables
import Derived.Test.YtldiemjlpnachaaGreatDoorOwn
import Derived.Test.YtldiemjlpnachaaGreatDoorRd
set_option maxHeartbeats 800000
namespace Go.Proofs.YtldiemjlpnachaaGreatDoor
open Go.RowKit
def itC(is:ByteArray)(n:Int)(q:Option Addr)(mn mx:Int):Array Value:=
 #[.string is]++Array.replicate 256 (.bool false)++ #[.int .i64 n,.slice none 0 0,.pointer q,.int .i64 mn,.int .i64 mx]
theorem run_b0(is:ByteArray)(w:World):(Instr.build 102 #[(0,.string is)]).run Tryz.prog w= .ok (.agg (itC is 0 none 0 0)) w:=by kernel_rfl
theorem run_b2(is:ByteArray)(n:Int)(w:World):(Instr.build 102 #[(0,.string is),(2,.int .i64 n)]).run Tryz.prog w= .ok (.agg (itC is n none 0 0)) w:=by kernel_rfl
theorem run_b46(is:ByteArray)(q:Option Addr)(mx:Int)(w:World):(Instr.build 102 #[(0,.string is),(4,.pointer q),(6,.int .i64 mx)]).run Tryz.prog w= .ok (.agg (itC is 0 q 0 mx)) w:=by kernel_rfl
theorem run_b456(is:ByteArray)(q:Option Addr)(mn mx:Int)(w:World):(Instr.build 102 #[(0,.string is),(4,.pointer q),(5,.int .i64 mn),(6,.int .i64 mx)]).run Tryz.prog w= .ok (.agg (itC is 0 q mn mx)) w:=by kernel_rfl
theorem run_bx(is:ByteArray)(n:Int)(q:Option Addr)(mn mx:Int)(w:World):(Instr.box 102 (.agg (itC is n q mn mx))).run Tryz.prog w= .ok (.pointer (some ⟨w.heap.size,0,none⟩)) (w.alloc (.cells (itC is n q mn mx) 102)):=by kernel_rfl
theorem itC_size(is:ByteArray)(n:Int)(q:Option Addr)(mn mx:Int):(itC is n q mn mx).size=262:=by simp[itC]
theorem itC_0(is:ByteArray)(n:Int)(q:Option Addr)(mn mx:Int):(itC is n q mn mx)[0]?=some (.string is):=by kernel_rfl
theorem itC_257(is:ByteArray)(n:Int)(q:Option Addr)(mn mx:Int):(itC is n q mn mx)[257]?=some (.int .i64 n):=by kernel_rfl
theorem itC_258(is:ByteArray)(n:Int)(q:Option Addr)(mn mx:Int):(itC is n q mn mx)[258]?=some (.slice none 0 0):=by kernel_rfl
theorem itC_259(is:ByteArray)(n:Int)(q:Option Addr)(mn mx:Int):(itC is n q mn mx)[259]?=some (.pointer q):=by kernel_rfl
theorem itC_260(is:ByteArray)(n:Int)(q:Option Addr)(mn mx:Int):(itC is n q mn mx)[260]?=some (.int .i64 mn):=by kernel_rfl
theorem itC_261(is:ByteArray)(n:Int)(q:Option Addr)(mn mx:Int):(itC is n q mn mx)[261]?=some (.int .i64 mx):=by kernel_rfl
theorem itC_set(is:ByteArray)(n:Int)(q:Option Addr)(mn mx:Int)(c:Nat)(h:c<256):(itC is n q mn mx)[1+c]?=some (.bool false):=by
 unfold itC
 rw[Array.getElem?_append_left (by simp;omega),Array.getElem?_append_right (by simp)]
 simp[h]
section
variable {ops : Array Oper} {rest : List Oper} {o : Oper} {a : Act} {w : World} {Q : Exit → Act → World → Prop}
theorem wp_b0(is:ByteArray)(hg:o.guard=none)(ho:o.op= .build 102 #[(0,.const (.string is))])
  (h:wpList Tryz.prog ops Q rest (a.put o.dst (.agg (itC is 0 none 0 0))) w):wpList Tryz.prog ops Q (o::rest) a w:=by
 refine wpList_plain hg fun K hK=>?_
 unfold Oper.wp execOp
 simp only[ho,Sem.run_bind]
 rw[show(#[(0,Operand.const (.string is))].map fun(x:Nat×Operand)=>(x.1,a.eval x.2))= #[(0,.string is)]from by kernel_rfl,run_b0]
 exact hK _ _ h
theorem wp_b2(is:ByteArray)(x:Operand)(n:Int)(hg:o.guard=none)(ho:o.op= .build 102 #[(0,.const (.string is)),(2,x)])(hx:a.eval x= .int .i64 n)
  (h:wpList Tryz.prog ops Q rest (a.put o.dst (.agg (itC is n none 0 0))) w):wpList Tryz.prog ops Q (o::rest) a w:=by
 refine wpList_plain hg fun K hK=>?_
 unfold Oper.wp execOp
 simp only[ho,Sem.run_bind]
 rw[show(#[(0,Operand.const (.string is)),(2,x)].map fun(x:Nat×Operand)=>(x.1,a.eval x.2))= #[(0,.string is),(2,a.eval x)]from by kernel_rfl,hx,run_b2]
 exact hK _ _ h
theorem wp_b46(is:ByteArray)(x:Operand)(q:Option Addr)(mx:Int)(hg:o.guard=none)(ho:o.op= .build 102 #[(0,.const (.string is)),(4,x),(6,.const (.int .i64 mx))])(hx:a.eval x= .pointer q)
  (h:wpList Tryz.prog ops Q rest (a.put o.dst (.agg (itC is 0 q 0 mx))) w):wpList Tryz.prog ops Q (o::rest) a w:=by
 refine wpList_plain hg fun K hK=>?_
 unfold Oper.wp execOp
 simp only[ho,Sem.run_bind]
 rw[show(#[(0,Operand.const (.string is)),(4,x),(6,.const (.int .i64 mx))].map fun(x:Nat×Operand)=>(x.1,a.eval x.2))= #[(0,.string is),(4,a.eval x),(6,.int .i64 mx)]from by kernel_rfl,hx,run_b46]
 exact hK _ _ h
theorem wp_b456(is:ByteArray)(x y z:Operand)(q:Option Addr)(mn mx:Int)(hg:o.guard=none)(ho:o.op= .build 102 #[(0,.const (.string is)),(4,x),(5,y),(6,z)])(hx:a.eval x= .pointer q)(hy:a.eval y= .int .i64 mn)(hz:a.eval z= .int .i64 mx)
  (h:wpList Tryz.prog ops Q rest (a.put o.dst (.agg (itC is 0 q mn mx))) w):wpList Tryz.prog ops Q (o::rest) a w:=by
 refine wpList_plain hg fun K hK=>?_
 unfold Oper.wp execOp
 simp only[ho,Sem.run_bind]
 rw[show(#[(0,Operand.const (.string is)),(4,x),(5,y),(6,z)].map fun(x:Nat×Operand)=>(x.1,a.eval x.2))= #[(0,.string is),(4,a.eval x),(5,a.eval y),(6,a.eval z)]from by kernel_rfl,hx,hy,hz,run_b456]
 exact hK _ _ h
theorem wp_bx(x:Operand)(is:ByteArray)(n:Int)(q:Option Addr)(mn mx:Int)(hg:o.guard=none)(ho:o.op= .box 102 x)(hx:a.eval x= .agg (itC is n q mn mx))
  (h:wpList Tryz.prog ops Q rest (a.put o.dst (.pointer (some ⟨w.heap.size,0,none⟩))) (w.alloc (.cells (itC is n q mn mx) 102))):wpList Tryz.prog ops Q (o::rest) a w:=by
 refine wpList_plain hg fun K hK=>?_
 unfold Oper.wp execOp
 simp only[ho,Sem.run_bind]
 rw[hx,run_bx]
 exact hK _ _ h
end
theorem byteItem_any(c:Nat)(w:World)(hc:c<256):
  Calls Tryz.prog 55 #[.int .u8 c] w fun e w'=>e= .returned (.pointer (some ⟨w.heap.size,0,none⟩))/\∃arr,w'=w.alloc (.cells arr 102)/\arr.size=262/\arr[0]?=some (.string ⟨#[98,121,116,101]⟩)/\∀d,d<256->arr[1+d]?=some (.bool (addS noS c d)):=by
 have hs:=itC_set ⟨#[98,121,116,101]⟩ 0 none 0 0 c hc
 go_enter Tryz.func55,Tryz.ntmps55
 go_wp2_with (first|refine wp_b0 ⟨#[98,121,116,101]⟩ rfl rfl ?_|refine wp_bx (.tmp 4) ⟨#[98,121,116,101]⟩ 0 none 0 0 rfl rfl rfl ?_)
 go_ret
 refine⟨rfl,_,rfl,by simp[itC_size],by rw[Array.getElem?_setIfInBounds_ne (by omega)];exact itC_0 _ _ _ _ _,fun d hd=>?_⟩
 rw[Array.getElem?_setIfInBounds]
 by_cases e:d=c
 ·subst e
  rw[if_pos rfl,if_pos (by rw[itC_size];omega)]
  simp[addS]
 ·rw[if_neg (by omega),itC_set _ _ _ _ _ d hd]
  simp[addS,noS,e]
end Go.Proofs.YtldiemjlpnachaaGreatDoor
set_option maxHeartbeats 1600000
namespace Go.Proofs.YtldiemjlpnachaaGreatDoor
open Go.RowKit
def isKind(k:Int)(is:ByteArray):Prop:=(k=0/\is=⟨#[98,121,116,101]⟩)\/(k=1/\is=⟨#[94]⟩)\/(k=2/\is=⟨#[36]⟩)\/(k=3/\is=⟨#[98,97,99,107]⟩)
def tmSz(m n x:Int):Int:=if 1000<x then 1000 else 1+cop m n*x
def RRow(P:Nat->It->Prop)(H:Fins)(ao:Option Addr)(rn:Nat)(its:List It):Prop:=
 its.length=rn/\rn<=1000/\(rn=0\/∃g arr,ao=some ⟨g,0,none⟩/\H g=some arr/\∀i (h:i<its.length),∃b,arr[i]?=some (.pointer (some ⟨b,0,none⟩))/\P b its[i])
def LeafTr(arr:Array Value)(k:Int)(t:Tr):Prop:=(k=0/\∃f,t= .one f/\∀c,c<256->arr[1+c]?=some (.bool (f c)))\/(k=1/\t= .beg)\/(k=2/\t= .fin)\/(k=3/\∃n:Nat,n<=9/\t= .back n/\arr[257]?=some (.int .i64 n))
def RItemOk(H:Fins):Nat->Nat->It->Prop
 |0,_,_=>False
 |d+1,b,it=>∃arr,H b=some arr/\arr.size=262/\1<=it.2/\it.2<=2000000/\
   ((∃is,arr[0]?=some (.string is)/\isKind it.1 is/\it.2=1/\LeafTr arr it.1 it.3)\/
    (it.1=4/\arr[0]?=some (.string ⟨#[103,114,111,117,112]⟩)/\∃ao rn rc its,arr[258]?=some (.slice ao rn rc)/\RRow (RItemOk H d) H ao rn its/\it.2=1+(1+sumSz (its.map (·.2)))/\∃k:Nat,k<=9/\arr[257]?=some (.int .i64 k)/\it.3= .grp k (its.map (·.3)))\/
    (it.1=5/\arr[0]?=some (.string ⟨#[116,105,109,101,115]⟩)/\∃q qi m n,arr[259]?=some (.pointer (some ⟨q,0,none⟩))/\arr[260]?=some (.int .i64 m)/\arr[261]?=some (.int .i64 n)/\0<=m/\m<=20/\ -1<=n/\n<=20/\RItemOk H d q qi/\it.2=tmSz m n qi.2/\it.3= .rep m n qi.3/\(n= -1\/m<=n)))
def RFin(w:World)(H:Fins):Prop:=∀g arr,H g=some arr->∃(t:Bool ⊕ {_t:TypeId//g=1}) (fr:Nat×Nat),w.heap[g]?=some (.cells arr (t.elim (fun b=>bif b then 102 else 99) (·.1)) fr)
theorem RFin.cell{w:World}{H:Fins}(h:RFin w H){g:Nat}{arr:Array Value}(hg:H g=some arr){i:Nat}{v:Value}(hv:arr[i]?=some v):w.cell? ⟨g,i,none⟩=some v:=by
 obtain⟨t,fr,ht⟩:=h g arr hg
 rw[cell_of_row w g i arr _ _ ht];exact hv
theorem RItemOk.bd{H:Fins}:∀ {d b:Nat} {it:It},RItemOk H d b it->1<=it.2/\it.2<=2000000
 |0,_,_,h=>h.elim
 |_+1,_,_,⟨_,_,_,h0,h1,_⟩=>⟨h0,h1⟩
def RItemSaid(H:Fins)(d:Nat):Prop:=∀(w:World) (b:Nat) (it:It),RFin w H->RItemOk H d b it->
  Calls Tryz.prog 34 #[.pointer (some ⟨b,0,none⟩)] w fun e w'=>e= .returned (.int .i64 it.2)/\w'=w
theorem sumSz_snoc(l:List Int)(x:Int):sumSz (l++ [x])=sumSz l+x:=by
 induction l with
 |nil=>simp[sumSz]
 |cons y r ih=>rw[List.cons_append,sumSz,ih,sumSz];omega
theorem size_any(H:Fins)(d:Nat)(hI:RItemSaid H d)(w:World)(ao:Option Addr)(rn rc:Nat)(its:List It)(hF:RFin w H)(hR:RRow (RItemOk H d) H ao rn its):
  Calls Tryz.prog 19 #[.slice ao rn rc] w fun e w'=>e= .returned (.int .i64 (1+sumSz (its.map (·.2))))/\w'=w:=by
 obtain⟨hlen,hrn,hrow⟩:=hR
 have HI:=hd hI
 clear hI
 have HF:=hd hF
 clear hF
 have Hrow:=hd hrow
 have Hlen:=hd hlen
 clear hrow hlen
 go_enter Tryz.func19,Tryz.ntmps19
 go_wp2
 go_loop [3,5,8] (fun z _ i=>∃(k:Nat) (n:Int),i= .int .i64 k/\z= .int .i64 n/\0<=n/\n<=1+k*2000000/\k<=rn/\Hid (n=1+sumSz ((its.take k).map (·.2)))) (fun _ _ i=>rn-(intOf i).toNat)
 case atStart=>exact⟨0,1,rfl,rfl,by omega,by omega,by omega,hd rfl⟩
 case round=>
  obtain⟨k,n,rfl,rfl,hn0,hn1,hk,HN⟩:=hrel
  by_cases hlt:k<rn
  ·obtain⟨g,arr,hra,hg,hP⟩:∃g arr,ao=some ⟨g,0,none⟩/\H g=some arr/\∀i (h:i<its.length),∃b,arr[i]?=some (.pointer (some ⟨b,0,none⟩))/\RItemOk H d b its[i]:=by
    rcases Hrow.out with h|h
    ·omega
    ·exact h
   have hkl:k<its.length:=by rw[Hlen.out];exact hlt
   obtain⟨b,hb,hok⟩:=hP k hkl
   have hbd:=hok.bd
   subst hra
   have Hsn:Hid (sumSz ((its.take (k+1)).map (·.2))=sumSz ((its.take k).map (·.2))+its[k].2):=by
    rw[take_snoc' its k hkl,List.map_append];exact sumSz_snoc _ _
   have Hc:=hd (HI.out w b its[k] HF.out hok)
   have hcell:w.cell? ⟨g,k,none⟩=some (.pointer (some ⟨b,0,none⟩)):=HF.out.cell hg hb
   have Hg:=hd hg
   have HP:=hd hP
   clear hg hP hok hb
   generalize hx:its[k].2=x at hbd Hsn Hc
   have Hx:=hd hx
   clear hx
   go_wp2_with (go_at_call 34;refine Hc.out.mono ?_;rintro e w' ⟨rfl,rfl⟩)
   go_round
   case rel=>exact⟨k+1,n+x,by go_num,rfl,by omega,by omega,by omega,hd (by rw[Hsn.out,HN.out];omega)⟩
   case measure=>simp[intOf];omega
  ·go_wp2
   go_ret
   have hkr:k=its.length:=by rw[Hlen.out];omega
   have:1+sumSz (its.map (·.2))=n:=by rw[HN.out,hkr,List.take_length]
   rw[this]
   exact⟨rfl,rfl⟩
theorem ritemSize_any(H:Fins):∀d,RItemSaid H d
 |0=>fun _ _ _ _ h=>h.elim
 |d+1=>by
  have ih:=ritemSize_any H d
  intro w b it hF hok
  obtain⟨arr,hH,hsz,hs1,hs2,hcase⟩:=hok
  obtain⟨kd,sz,tr⟩:=it
  simp only at*
  rcases hcase with⟨is,h0,hk,rfl,_⟩|⟨rfl,h0,ao,rn,rc,its,h258,hR,rfl,_⟩|⟨rfl,h0,q,qi,m,n,h259,h260,h261,hm0,hm1,hn0,hn1,hq,rfl,_⟩
  ·have c0:=hF.cell hH h0
   clear hF hH h0 hsz hs1 hs2 ih
   rcases hk with⟨_,rfl⟩|⟨_,rfl⟩|⟨_,rfl⟩|⟨_,rfl⟩
   all_goals
    go_enter Tryz.func34,Tryz.ntmps34
    go_wp2
    go_ret
    exact⟨rfl,rfl⟩
  ·have c0:=hF.cell hH h0
   have c3:=hF.cell hH h258
   have Hc:=hd (size_any H d ih w ao rn rc its hF hR)
   clear hF hH h0 hsz ih hR h258
   generalize sumSz (its.map (·.2))=z at hs1 hs2 Hc ⊢
   go_enter Tryz.func34,Tryz.ntmps34
   go_wp2_with (go_at_call 19;refine Hc.out.mono ?_;rintro e w' ⟨rfl,rfl⟩)
   go_ret
   exact⟨rfl,rfl⟩
  ·have c0:=hF.cell hH h0
   have c4:=hF.cell hH h259
   have c5:=hF.cell hH h260
   have c6:=hF.cell hH h261
   have Hc:=hd (ih w q qi hF hq)
   have hbd:=hq.bd
   have hcb:=cop_bd m n ⟨hm0,hm1⟩ ⟨hn0,hn1⟩
   have Ht:Hid (tmSz m n qi.2=if 1000<qi.2 then 1000 else 1+cop m n*qi.2):=hd rfl
   clear hF hH h0 hsz ih hq h259 h260 h261 hs1 hs2
   generalize tmSz m n qi.2=tz at Ht ⊢
   generalize qi.2=x at hbd Hc Ht
   by_cases hx:1000<x
   ·have Hz:Hid (tz=1000):=hd (by rw[Ht.out,if_pos hx])
    clear Ht
    by_cases hneg:n<0
    ·by_cases hm:m+1<1
     ·omega
     ·go_enter Tryz.func34,Tryz.ntmps34
      go_wp2_with (go_at_call 34;refine Hc.out.mono ?_;rintro e w' ⟨rfl,rfl⟩)
      go_ret
      rw[Hz.out]
      exact⟨rfl,rfl⟩
    ·by_cases hm:n<1
     all_goals
      go_enter Tryz.func34,Tryz.ntmps34
      go_wp2_with (go_at_call 34;refine Hc.out.mono ?_;rintro e w' ⟨rfl,rfl⟩)
      go_ret
      rw[Hz.out]
      exact⟨rfl,rfl⟩
   ·have Hz:Hid (tz=1+cop m n*x):=hd (by rw[Ht.out,if_neg hx])
    clear Ht
    generalize hc:cop m n=c at hcb Hz
    have hy:0<=c*x/\c*x<=21*1000:=by
     constructor
     ·exact Int.mul_nonneg (by omega) (by omega)
     ·exact Int.le_trans (Int.mul_le_mul_of_nonneg_right (by omega:c<=21) (by omega)) (by omega)
    by_cases hneg:n<0
    ·by_cases hm:m+1<1
     ·omega
     ·have e:c=m+1:=by rw[<-hc];unfold cop;rw[if_pos (show n= -1 by omega),if_neg (by omega)]
      subst e
      clear hc
      go_enter Tryz.func34,Tryz.ntmps34
      go_wp2_with (go_at_call 34;refine Hc.out.mono ?_;rintro e w' ⟨rfl,rfl⟩)
      go_ret
      rw[Hz.out]
      exact⟨rfl,rfl⟩
    ·by_cases hm:n<1
     ·have e:c=1:=by rw[<-hc];unfold cop;rw[if_neg (show ¬n= -1 by omega),if_pos (by omega)]
      subst e
      clear hc
      rw[Int.one_mul]at hy
      have Hz2:Hid (tz=1+x):=hd (by rw[Hz.out,Int.one_mul])
      clear Hz
      go_enter Tryz.func34,Tryz.ntmps34
      go_wp2_with (go_at_call 34;refine Hc.out.mono ?_;rintro e w' ⟨rfl,rfl⟩)
      go_ret
      rw[Hz2.out]
      exact⟨rfl,rfl⟩
     ·have e:c=n:=by rw[<-hc];unfold cop;rw[if_neg (show ¬n= -1 by omega),if_neg (by omega)]
      subst e
      clear hc
      go_enter Tryz.func34,Tryz.ntmps34
      go_wp2_with (go_at_call 34;refine Hc.out.mono ?_;rintro e w' ⟨rfl,rfl⟩)
      go_ret
      rw[Hz.out]
      exact⟨rfl,rfl⟩
end Go.Proofs.YtldiemjlpnachaaGreatDoor
namespace Go.Proofs.YtldiemjlpnachaaGreatDoor
open Go.RowKit
structure RSt where
 done:Nat->Bool
 used:Nat->Bool
 opens:List Nat
 groups:Nat
 err:Nat
 pl:Nat
structure Rg(w:World)(R P:Nat)(s:ByteArray)(H:Fins)(vo:Value)(τ:RSt):Prop where
 c0:w.cell? ⟨R,0,none⟩=some (.string s)
 c1:w.cell? ⟨R,1,none⟩=some (.pointer (some ⟨P,0,none⟩))
 cd:∀i,i<10->w.cell? ⟨R,2+i,none⟩=some (.bool (τ.done i))
 co:w.cell? ⟨R,12,none⟩=some vo
 ce:w.cell? ⟨R,13,none⟩=some (.int .i64 τ.err)
 ca:w.cell? ⟨R,14,none⟩=some (.int .i64 τ.pl)
 fR:∀i,w.frozen? ⟨R,i,none⟩=false
 p0:∃v,w.cell? ⟨P,0,none⟩=some v
 pg:w.cell? ⟨P,1,none⟩=some (.int .i64 τ.groups)
 pu:∀i,i<10->w.cell? ⟨P,2+i,none⟩=some (.bool (τ.used i))
 fP:∀i,w.frozen? ⟨P,i,none⟩=false
 own:w.ownsRow 0 3 1 vo τ.opens.length (τ.opens.map fun n:Nat=>Value.int .i64 n)
 ne:R≠P
 oR:vo.ownBlock≠some R
 oP:vo.ownBlock≠some P
 fin:RFin w H
 sep:∀g arr,H g=some arr->g≠R/\g≠P/\vo.ownBlock≠some g
theorem RFin.lt{w:World}{H:Fins}(h:RFin w H){g:Nat}{arr:Array Value}(hg:H g=some arr):g<w.heap.size:=by
 obtain⟨t,fr,ht⟩:=h g arr hg
 rcases Nat.lt_or_ge g w.heap.size with hlt|hge
 ·exact hlt
 ·rw[Array.getElem?_eq_none hge]at ht;cases ht
theorem owns_lt{w:World}{base e size n:Nat}{v:Value}{xs:List Value}(h:w.ownsRow base e size v n xs){k:Nat}(hk:v.ownBlock=some k):k<w.heap.size:=by
 rcases h.2 with⟨rfl,_⟩|⟨g,cap,cur,rfl,_,hg,_⟩
 ·cases hk
 ·simp only[Value.ownBlock,Option.some.injEq]at hk
  subst hk
  rcases Nat.lt_or_ge g w.heap.size with hlt|hge
  ·exact hlt
  ·rw[Array.getElem?_eq_none hge]at hg;cases hg
section
variable {w w' : World} {R P : Nat} {s : ByteArray} {H : Fins} {vo : Value} {τ : RSt}
theorem Rg.ltR(h:Rg w R P s H vo τ):R<w.heap.size:=World.block_lt_of_cell? w _ h.c0
theorem Rg.ltP(h:Rg w R P s H vo τ):P<w.heap.size:=World.block_lt_of_cell? w _ h.pg
theorem Rg.shape(h:Rg w R P s H vo τ):∃ao cp,vo= .slice ao τ.opens.length cp:=by
 rcases h.own.2 with⟨rfl,h0⟩|⟨g,cap,_,rfl,_⟩
 ·exact⟨none,0,by rw[h0]⟩
 ·exact⟨_,_,rfl⟩
theorem Rg.same(h:Rg w R P s H vo τ)(hR:w'.heap[R]?=w.heap[R]?)(hP:w'.heap[P]?=w.heap[P]?)(ho:∀k,vo.ownBlock=some k->w'.heap[k]?=w.heap[k]?)(hH:∀g arr,H g=some arr->w'.heap[g]?=w.heap[g]?):Rg w' R P s H vo τ:=
 have eR:∀i,w'.cell? ⟨R,i,none⟩=w.cell? ⟨R,i,none⟩:=fun i=>World.cell?_of_block hR
 have eP:∀i,w'.cell? ⟨P,i,none⟩=w.cell? ⟨P,i,none⟩:=fun i=>World.cell?_of_block hP
 have gR:∀i,w'.frozen? ⟨R,i,none⟩=w.frozen? ⟨R,i,none⟩:=fun i=>World.frozen?_of_block hR
 have gP:∀i,w'.frozen? ⟨P,i,none⟩=w.frozen? ⟨P,i,none⟩:=fun i=>World.frozen?_of_block hP
 ⟨(eR _).trans h.c0,(eR _).trans h.c1,fun i hi=>(eR _).trans (h.cd i hi),(eR _).trans h.co,(eR _).trans h.ce,(eR _).trans h.ca,fun i=>(gR i).trans (h.fR i),
  h.p0.imp fun _ hv=>(eP _).trans hv,(eP _).trans h.pg,fun i hi=>(eP _).trans (h.pu i hi),fun i=>(gP i).trans (h.fP i),owns_same h.own ho,h.ne,h.oR,h.oP,
  fun g arr hg=>by obtain⟨t,fr,ht⟩:=h.fin g arr hg;exact⟨t,fr,(hH g arr hg).trans ht⟩,h.sep⟩
theorem Rg.alloc(h:Rg w R P s H vo τ)(o:Obj):Rg (w.alloc o) R P s H vo τ:=
 h.same (Below.heap_alloc _ _ _ h.ltR) (Below.heap_alloc _ _ _ h.ltP) (fun _ hk=>Below.heap_alloc _ _ _ (owns_lt h.own hk)) (fun _ _ hg=>Below.heap_alloc _ _ _ (h.fin.lt hg))
theorem Rg.drew(h:Rg w R P s H vo τ):Rg w.drew R P s H vo τ:=h.same rfl rfl (fun _ _=>rfl) (fun _ _ _=>rfl)
theorem Rg.drewN(h:Rg w R P s H vo τ)(n:Nat):Rg (w.drewN n) R P s H vo τ:=h.same rfl rfl (fun _ _=>rfl) (fun _ _ _=>rfl)
theorem Rg.set(h:Rg w R P s H vo τ)(b i:Nat)(v:Value)(hR:b≠R)(hP:b≠P)(ho:vo.ownBlock≠some b)(hH:H b=none):Rg (w.setCell ⟨b,i,none⟩ v) R P s H vo τ:=
 h.same (Below.heap_setCell _ _ _ _ (fun e=>hR e.symm)) (Below.heap_setCell _ _ _ _ (fun e=>hP e.symm)) (fun k hk=>Below.heap_setCell _ _ _ _ (fun e=>ho (by rw[hk];exact congrArg some e)))
  (fun g arr hg=>Below.heap_setCell _ _ _ _ (fun e=>by have e':g=b:=e;rw[e',hH]at hg;cases hg))
theorem Rg.grown(h:Rg w R P s H vo τ){row:Option Nat}(hg:w.grownBy w' row)(hR:row≠some R)(hP:row≠some P)(ho:∀k,vo.ownBlock=some k->row≠some k)(hH:∀g arr,H g=some arr->row≠some g):Rg w' R P s H vo τ:=
 h.same (hg.block _ h.ltR (fun e=>hR e.symm)) (hg.block _ h.ltP (fun e=>hP e.symm)) (fun k hk=>hg.block _ (owns_lt h.own hk) (fun e=>ho k hk e.symm)) (fun g arr hh=>hg.block _ (h.fin.lt hh) (fun e=>hH g arr hh e.symm))
theorem Rg.keepR(h:Rg w R P s H vo τ)(i:Nat)(v:Value):(∀j,i≠j->(w.setCell ⟨R,i,none⟩ v).cell? ⟨R,j,none⟩=w.cell? ⟨R,j,none⟩)/\(∀j,(w.setCell ⟨R,i,none⟩ v).cell? ⟨P,j,none⟩=w.cell? ⟨P,j,none⟩)/\(∀a,(w.setCell ⟨R,i,none⟩ v).frozen? a=w.frozen? a)/\
  ((w.setCell ⟨R,i,none⟩ v).ownsRow 0 3 1 vo τ.opens.length (τ.opens.map fun n:Nat=>Value.int .i64 n))/\RFin (w.setCell ⟨R,i,none⟩ v) H:=by
 refine⟨fun j hj=>World.cell?_setCell_other _ _ _ _ (by rintro e;cases e;exact hj rfl),fun j=>World.cell?_setCell_other _ _ _ _ (by rintro e;cases e;exact h.ne rfl),fun a=>World.frozen?_setCell _ _ _ _,owns_same h.own fun k hk=>Below.heap_setCell _ _ _ _ (fun e=>h.oR (by rw[hk];exact congrArg some e)),fun g arr hg=>?_⟩
 obtain⟨t,fr,ht⟩:=h.fin g arr hg
 exact⟨t,fr,(Below.heap_setCell _ _ _ _ (fun e=>(h.sep g arr hg).1 e)).trans ht⟩
theorem Rg.keepP(h:Rg w R P s H vo τ)(i:Nat)(v:Value):(∀j,i≠j->(w.setCell ⟨P,i,none⟩ v).cell? ⟨P,j,none⟩=w.cell? ⟨P,j,none⟩)/\(∀j,(w.setCell ⟨P,i,none⟩ v).cell? ⟨R,j,none⟩=w.cell? ⟨R,j,none⟩)/\(∀a,(w.setCell ⟨P,i,none⟩ v).frozen? a=w.frozen? a)/\
  ((w.setCell ⟨P,i,none⟩ v).ownsRow 0 3 1 vo τ.opens.length (τ.opens.map fun n:Nat=>Value.int .i64 n))/\RFin (w.setCell ⟨P,i,none⟩ v) H:=by
 refine⟨fun j hj=>World.cell?_setCell_other _ _ _ _ (by rintro e;cases e;exact hj rfl),fun j=>World.cell?_setCell_other _ _ _ _ (by rintro e;cases e;exact h.ne rfl),fun a=>World.frozen?_setCell _ _ _ _,owns_same h.own fun k hk=>Below.heap_setCell _ _ _ _ (fun e=>h.oP (by rw[hk];exact congrArg some e)),fun g arr hg=>?_⟩
 obtain⟨t,fr,ht⟩:=h.fin g arr hg
 exact⟨t,fr,(Below.heap_setCell _ _ _ _ (fun e=>(h.sep g arr hg).2.1 e)).trans ht⟩
theorem Rg.setErr(h:Rg w R P s H vo τ)(e:Nat):Rg (w.setCell ⟨R,13,none⟩ (.int .i64 e)) R P s H vo {τ with err:=e}:=by
 obtain⟨k1,k2,k3,k4,k5⟩:=h.keepR 13 (.int .i64 e)
 exact⟨(k1 0 (by omega)).trans h.c0,(k1 1 (by omega)).trans h.c1,fun i hi=>(k1 _ (by omega)).trans (h.cd i hi),(k1 12 (by omega)).trans h.co,World.cell?_setCell_same _ _ _ h.ce,(k1 14 (by omega)).trans h.ca,fun i=>(k3 _).trans (h.fR i),
  h.p0.imp fun _ hv=>(k2 _).trans hv,(k2 _).trans h.pg,fun i hi=>(k2 _).trans (h.pu i hi),fun i=>(k3 _).trans (h.fP i),k4,h.ne,h.oR,h.oP,k5,h.sep⟩
theorem Rg.setPl(h:Rg w R P s H vo τ)(e:Nat):Rg (w.setCell ⟨R,14,none⟩ (.int .i64 e)) R P s H vo {τ with pl:=e}:=by
 obtain⟨k1,k2,k3,k4,k5⟩:=h.keepR 14 (.int .i64 e)
 exact⟨(k1 0 (by omega)).trans h.c0,(k1 1 (by omega)).trans h.c1,fun i hi=>(k1 _ (by omega)).trans (h.cd i hi),(k1 12 (by omega)).trans h.co,(k1 13 (by omega)).trans h.ce,World.cell?_setCell_same _ _ _ h.ca,fun i=>(k3 _).trans (h.fR i),
  h.p0.imp fun _ hv=>(k2 _).trans hv,(k2 _).trans h.pg,fun i hi=>(k2 _).trans (h.pu i hi),fun i=>(k3 _).trans (h.fP i),k4,h.ne,h.oR,h.oP,k5,h.sep⟩
theorem Rg.setDone(h:Rg w R P s H vo τ)(n:Nat)(hn:n<10):Rg (w.setCell ⟨R,2+n,none⟩ (.bool true)) R P s H vo {τ with done:=fun i=>if i=n then true else τ.done i}:=by
 obtain⟨k1,k2,k3,k4,k5⟩:=h.keepR (2+n) (.bool true)
 refine⟨(k1 0 (by omega)).trans h.c0,(k1 1 (by omega)).trans h.c1,fun i hi=>?_,(k1 12 (by omega)).trans h.co,(k1 13 (by omega)).trans h.ce,(k1 14 (by omega)).trans h.ca,fun i=>(k3 _).trans (h.fR i),
  h.p0.imp fun _ hv=>(k2 _).trans hv,(k2 _).trans h.pg,fun i hi=>(k2 _).trans (h.pu i hi),fun i=>(k3 _).trans (h.fP i),k4,h.ne,h.oR,h.oP,k5,h.sep⟩
 by_cases e:i=n
 ·subst e;simp only[if_true];exact World.cell?_setCell_same _ _ _ (h.cd i hi)
 ·simp only[if_neg e];exact(k1 _ (by omega)).trans (h.cd i hi)
theorem Rg.setUsed(h:Rg w R P s H vo τ)(n:Nat)(hn:n<10):Rg (w.setCell ⟨P,2+n,none⟩ (.bool true)) R P s H vo {τ with used:=fun i=>if i=n then true else τ.used i}:=by
 obtain⟨k1,k2,k3,k4,k5⟩:=h.keepP (2+n) (.bool true)
 refine⟨(k2 _).trans h.c0,(k2 _).trans h.c1,fun i hi=>(k2 _).trans (h.cd i hi),(k2 _).trans h.co,(k2 _).trans h.ce,(k2 _).trans h.ca,fun i=>(k3 _).trans (h.fR i),
  h.p0.imp fun _ hv=>(k1 0 (by omega)).trans hv,(k1 1 (by omega)).trans h.pg,fun i hi=>?_,fun i=>(k3 _).trans (h.fP i),k4,h.ne,h.oR,h.oP,k5,h.sep⟩
 by_cases e:i=n
 ·subst e;simp only[if_true];exact World.cell?_setCell_same _ _ _ (h.pu i hi)
 ·simp only[if_neg e];exact(k1 _ (by omega)).trans (h.pu i hi)
theorem Rg.setGroups(h:Rg w R P s H vo τ)(g:Nat):Rg (w.setCell ⟨P,1,none⟩ (.int .i64 g)) R P s H vo {τ with groups:=g}:=by
 obtain⟨k1,k2,k3,k4,k5⟩:=h.keepP 1 (.int .i64 g)
 exact⟨(k2 _).trans h.c0,(k2 _).trans h.c1,fun i hi=>(k2 _).trans (h.cd i hi),(k2 _).trans h.co,(k2 _).trans h.ce,(k2 _).trans h.ca,fun i=>(k3 _).trans (h.fR i),
  h.p0.imp fun _ hv=>(k1 0 (by omega)).trans hv,World.cell?_setCell_same _ _ _ h.pg,fun i hi=>(k1 _ (by omega)).trans (h.pu i hi),fun i=>(k3 _).trans (h.fP i),k4,h.ne,h.oR,h.oP,k5,h.sep⟩
theorem Rg.setOpens(h:Rg w R P s H vo τ)(v':Value)(os:List Nat)(hown:w.ownsRow 0 3 1 v' os.length (os.map fun n:Nat=>Value.int .i64 n))(hR:v'.ownBlock≠some R)(hP:v'.ownBlock≠some P)(hH:∀g arr,H g=some arr->v'.ownBlock≠some g):
  Rg (w.setCell ⟨R,12,none⟩ v') R P s H v' {τ with opens:=os}:=by
 obtain⟨k1,k2,k3,_,k5⟩:=h.keepR 12 v'
 exact⟨(k1 0 (by omega)).trans h.c0,(k1 1 (by omega)).trans h.c1,fun i hi=>(k1 _ (by omega)).trans (h.cd i hi),World.cell?_setCell_same _ _ _ h.co,(k1 13 (by omega)).trans h.ce,(k1 14 (by omega)).trans h.ca,fun i=>(k3 _).trans (h.fR i),
  h.p0.imp fun _ hv=>(k2 _).trans hv,(k2 _).trans h.pg,fun i hi=>(k2 _).trans (h.pu i hi),fun i=>(k3 _).trans (h.fP i),
  owns_same hown fun k hk=>Below.heap_setCell _ _ _ _ (fun e=>hR (by rw[hk];exact congrArg some e)),h.ne,hR,hP,k5,fun g arr hg=>⟨(h.sep g arr hg).1,(h.sep g arr hg).2.1,hH g arr hg⟩⟩
theorem Rg.finish(h:Rg w R P s H vo τ)(b:Nat)(arr:Array Value)(t:Bool)(hb:w.heap[b]?=some (.cells arr (bif t then 102 else 99) (0,0)))(hn:H b=none)(hR:b≠R)(hP:b≠P)(ho:vo.ownBlock≠some b):
  Rg w R P s (fun g=>if g=b then some arr else H g) vo τ:=
 ⟨h.c0,h.c1,h.cd,h.co,h.ce,h.ca,h.fR,h.p0,h.pg,h.pu,h.fP,h.own,h.ne,h.oR,h.oP,
  fun g a hg=>by
   by_cases e:g=b
   ·subst e;simp at hg;subst hg;exact⟨.inl t,_,hb⟩
   ·simp[e]at hg;exact h.fin g a hg,
  fun g a hg=>by
   by_cases e:g=b
   ·subst e;exact⟨hR,hP,ho⟩
   ·simp[e]at hg;exact h.sep g a hg⟩
end
structure Rkp(w w':World)(R P:Nat)(vo vo':Value):Prop where
 os:w'.os=w.os
 tape:w'.tape=w.tape
 output:w'.output=w.output
 size:w.heap.size<=w'.heap.size
 block:∀k,k<w.heap.size->k≠R->k≠P->vo.ownBlock≠some k->w'.heap[k]?=w.heap[k]?
 own:∀k,vo'.ownBlock=some k->vo.ownBlock=some k\/w.heap.size<=k
theorem Rkp.refl(w:World)(R P:Nat)(vo:Value):Rkp w w R P vo vo:=⟨rfl,rfl,rfl,Nat.le_refl _,fun _ _ _ _ _=>rfl,fun _ h=> .inl h⟩
theorem Rkp.trans{a b c:World}{R P:Nat}{u v x:Value}(h:Rkp a b R P u v)(k:Rkp b c R P v x):Rkp a c R P u x:=
 ⟨k.os.trans h.os,k.tape.trans h.tape,k.output.trans h.output,Nat.le_trans h.size k.size,fun i hi h1 h2 h3=>(k.block i (Nat.lt_of_lt_of_le hi h.size) h1 h2 (fun e=>by rcases h.own i e with e'|e';exact h3 e';omega)).trans (h.block i hi h1 h2 h3),
  fun i hi=>by rcases k.own i hi with e|e;exact h.own i e;exact .inr (Nat.le_trans h.size e)⟩
theorem Rkp.alloc{a w:World}{R P:Nat}{u v:Value}(h:Rkp a w R P u v)(o:Obj):Rkp a (w.alloc o) R P u v:=
 h.trans ⟨rfl,rfl,rfl,by simp,fun k hk _ _ _=>Below.heap_alloc _ _ _ hk,fun _ h=> .inl h⟩
theorem Rkp.drew{a w:World}{R P:Nat}{u v:Value}(h:Rkp a w R P u v):Rkp a w.drew R P u v:=⟨h.os,h.tape,h.output,h.size,h.block,h.own⟩
theorem Rkp.drewN{a w:World}{R P:Nat}{u v:Value}(h:Rkp a w R P u v)(n:Nat):Rkp a (w.drewN n) R P u v:=⟨h.os,h.tape,h.output,h.size,h.block,h.own⟩
theorem Rkp.setR{a w:World}{R P:Nat}{u v:Value}(h:Rkp a w R P u v)(i:Nat)(x:Value):Rkp a (w.setCell ⟨R,i,none⟩ x) R P u v:=
 h.trans ⟨rfl,rfl,rfl,by simp[World.setCell],fun k _ h1 _ _=>Below.heap_setCell _ _ _ _ h1,fun _ h=> .inl h⟩
theorem Rkp.setP{a w:World}{R P:Nat}{u v:Value}(h:Rkp a w R P u v)(i:Nat)(x:Value):Rkp a (w.setCell ⟨P,i,none⟩ x) R P u v:=
 h.trans ⟨rfl,rfl,rfl,by simp[World.setCell],fun k _ _ h2 _=>Below.heap_setCell _ _ _ _ h2,fun _ h=> .inl h⟩
theorem Rkp.setNew{a w:World}{R P:Nat}{u v:Value}(h:Rkp a w R P u v)(b i:Nat)(hb:a.heap.size<=b)(x:Value):Rkp a (w.setCell ⟨b,i,none⟩ x) R P u v:=
 ⟨h.os,h.tape,h.output,by simp[World.setCell];exact h.size,fun k hk h1 h2 h3=>(Below.heap_setCell _ _ _ _ (by intro e;have e':k=b:=e;omega)).trans (h.block k hk h1 h2 h3),h.own⟩
theorem wrong_any{w:World}{R P:Nat}{s:ByteArray}{H:Fins}{vo:Value}{τ:RSt}(h:Rg w R P s H vo τ)(e p:Nat)(i:Int)(hi:i=p)(h0:τ.err=0):
  Calls Tryz.prog 18 #[.pointer (some ⟨R,0,none⟩),.int .i64 e,.int .i64 i] w fun r w'=>r= .returned (.tuple #[])/\Rg w' R P s H vo {τ with err:=e,pl:=p}/\Rkp w w' R P vo vo:=by
 subst hi
 have c13:=h.ce
 have c14:=h.ca
 have f:=h.fR
 rw[h0]at c13
 have Hh:=hd h
 clear h
 go_enter Tryz.func18,Tryz.ntmps18
 go_wp2
 go_end0
 exact⟨rfl,(Hh.out.setErr e).setPl p,((Rkp.refl w R P vo).setR 13 _).setR 14 _⟩
theorem wrong_no{w:World}{R P:Nat}{s:ByteArray}{H:Fins}{vo:Value}{τ:RSt}(h:Rg w R P s H vo τ)(e i:Int)(h0:τ.err≠0):
  Calls Tryz.prog 18 #[.pointer (some ⟨R,0,none⟩),.int .i64 e,.int .i64 i] w fun r w'=>r= .returned (.tuple #[])/\w'=w:=by
 have c13:=h.ce
 have hne:((τ.err:Int)==0)=false:=by simp;omega
 clear h
 go_enter Tryz.func18,Tryz.ntmps18
 go_wp2
 go_end0
 exact⟨rfl,rfl⟩
def cnt(f:Nat->Bool):Nat->Nat
 |0=>0
 |k+1=>cnt f k+if f k then 1 else 0
theorem cnt_le(f:Nat->Bool):∀k,cnt f k<=k
 |0=>Nat.le_refl _
 |k+1=>by have:=cnt_le f k;rw[cnt];split<;>omega
def tenB(f:Nat->Bool):Array Value:= #[.bool (f 0),.bool (f 1),.bool (f 2),.bool (f 3),.bool (f 4),.bool (f 5),.bool (f 6),.bool (f 7),.bool (f 8),.bool (f 9)]
theorem run_ixb(f:Nat->Bool)(k:Nat)(hk:k<10)(w:World):(Instr.index 62 (.agg (tenB f)) (.int .i64 k)).run Tryz.prog w= .ok (.bool (f k)) w:=by
 rcases(show k=0\/k=1\/k=2\/k=3\/k=4\/k=5\/k=6\/k=7\/k=8\/k=9 by omega)with rfl|rfl|rfl|rfl|rfl|rfl|rfl|rfl|rfl|rfl<;>kernel_rfl
theorem refs_any{w:World}{R P:Nat}{s:ByteArray}{H:Fins}{vo:Value}{τ:RSt}(h:Rg w R P s H vo τ):
  Calls Tryz.prog 20 #[.pointer (some ⟨P,0,none⟩)] w fun r w'=>r= .returned (.int .i64 (cnt τ.used 10))/\w'=w:=by
 have hp:=h.pu
 have q0:=hp 0 (by omega)
 have q1:=hp 1 (by omega)
 have q2:=hp 2 (by omega)
 have q3:=hp 3 (by omega)
 have q4:=hp 4 (by omega)
 have q5:=hp 5 (by omega)
 have q6:=hp 6 (by omega)
 have q7:=hp 7 (by omega)
 have q8:=hp 8 (by omega)
 have q9:=hp 9 (by omega)
 clear hp h
 simp only[Nat.reduceAdd]at q0 q1 q2 q3 q4 q5 q6 q7 q8 q9
 generalize τ.used=f at*
 go_enter Tryz.func20,Tryz.ntmps20
 go_wp2
 go_loop [3,5,10] (fun n _ i=>∃k:Nat,k<=10/\i= .int .i64 k/\n= .int .i64 (cnt f k)) (fun _ _ i=>10-(intOf i).toNat)
 case atStart=>exact⟨0,by omega,rfl,rfl⟩
 case round=>
  obtain⟨k,hk,rfl,rfl⟩:=hrel
  clear q0 q1 q2 q3 q4 q5 q6 q7 q8 q9
  by_cases hlt:k<10
  ·have hix:=run_ixb f k hlt
   unfold tenB at hix
   have hc:=cnt_le f k
   cases hf:f k
   all_goals
    rw[hf]at hix
    have Hf:=hd hf
    clear hf
    go_wp2
    go_round
    case rel=>exact⟨k+1,by omega,by go_num,by simp[cnt,Hf.out]⟩
    case measure=>simp[intOf];omega
  ·obtain rfl:k=10:=by omega
   go_wp2
   go_ret
   exact⟨rfl,rfl⟩
end Go.Proofs.YtldiemjlpnachaaGreatDoor

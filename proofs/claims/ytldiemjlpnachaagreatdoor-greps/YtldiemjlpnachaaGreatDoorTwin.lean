import Derived.WalkKit
import Derived.Test.YtldiemjlpnachaaGreatDoorRows
import Derived.WalkSpells
import Derived.WalkLawsBesides
import Derived.Deep.Light
namespace Go.Proofs.YtldiemjlpnachaaGreatDoor
def sw(l:List UInt8)(i:Nat)(t:List UInt8):Bool:=(l.drop i).take t.length==t
def ch(l:List UInt8)(i:Nat):Nat:=(l[i]?.getD 0).toNat
def dig(c:Nat):Bool:=decide (48<=c/\c<=57)
theorem extract_list(s:ByteArray)(a b:Nat):(s.extract a b).toList=(s.data.toList.drop a).take (b-a):=by
 rw[ByteArray.toList_eq]
 simp[ByteArray.data_extract,Array.toList_extract]
theorem ch_get(s:ByteArray)(i:Nat)(h:i<s.size):(s[i]).toNat=ch s.data.toList i:=by
 unfold ch
 have h':i<s.data.toList.length:=by simpa using h
 rw[List.getElem?_eq_getElem h']
 rfl
theorem len_data(s:ByteArray):s.data.toList.length=s.size:=by simp
theorem ch_lt(l:List UInt8)(i:Nat):ch l i<256:=by
 unfold ch
 exact UInt8.toNat_lt _
theorem sw_len(l:List UInt8)(i:Nat)(t:List UInt8)(h:l.length<i+t.length)(h0:0<t.length):sw l i t=false:=by
 unfold sw
 apply beq_eq_false_iff_ne.2
 intro e
 have:=congrArg List.length e
 simp at this
 omega
theorem sw_yes(s t:ByteArray)(i:Nat):((s.extract i (i+t.size)).toList==t.toList)=sw s.data.toList i t.data.toList:=by
 rw[extract_list,ByteArray.toList_eq,sw]
 simp
theorem sw_cons(l:List UInt8)(i:Nat)(a:UInt8)(t:List UInt8):sw l i (a::t)=(decide (i<l.length)&&(ch l i==a.toNat)&&sw l (i+1) t):=by
 by_cases h:i<l.length
 ·unfold sw ch
  rw[List.drop_eq_getElem_cons h,List.getElem?_eq_getElem h]
  simp only[List.length_cons,List.take_succ_cons,h,decide_true,Bool.true_and,Option.getD_some]
  show(l[i]::List.take t.length (List.drop (i+1) l)==a::t)=_
  rw[List.cons_beq_cons]
  congr 1
  rw[Bool.eq_iff_iff]
  simp[UInt8.toNat_inj]
 ·rw[sw_len _ _ _ (by simp;omega) (by simp)]
  simp[h]
theorem sw_nil(l:List UInt8)(i:Nat):sw l i []=true:=by simp[sw]
theorem sw1(l:List UInt8)(i:Nat)(a:UInt8):sw l i [a]=(decide (i<l.length)&&(ch l i==a.toNat)):=by
 rw[sw_cons,sw_nil,Bool.and_true]
theorem sw2(l:List UInt8)(i:Nat)(a b:UInt8):sw l i [a,b]=(decide (i+1<l.length)&&(ch l i==a.toNat)&&(ch l (i+1)==b.toNat)):=by
 rw[sw_cons,sw1]
 by_cases h:i+1<l.length
 ·have h':i<l.length:=by omega
  simp[h,h']
 ·simp[h]
def spB(l:List UInt8)(i:Nat):Bool:=decide (i+1<l.length)&&(ch l i==45)&&(ch l (i+1) !=93)
def nmB(l:List UInt8)(i:Nat):Bool:=decide (i+1<l.length)&&(ch l i==91)&&((ch l (i+1)==58)||(ch l (i+1)==46)||(ch l (i+1)==61))
def numGo(l:List UInt8):Nat->Nat->Nat->Option (Nat×Nat)
 |0,n,i=>some (n,i)
 |f+1,n,i=>if dig (ch l i)=true then(if 20<n*10+(ch l i-48)then none else numGo l f (n*10+(ch l i-48)) (i+1))else some (n,i)
def num(l:List UInt8)(i:Nat):Option (Nat×Nat):=
 match numGo l (l.length-i) 0 i with
 |none=>none
 |some (n,e)=>if e=i then none else some (n,e)
theorem numGo_end{l:List UInt8}{n k:Nat}(h:l.length<=k):numGo l (l.length-k) n k=some (n,k):=by
 rw[show l.length-k=0 by omega];rfl
theorem numGo_no{l:List UInt8}{n k:Nat}(hd:dig (ch l k)=false):numGo l (l.length-k) n k=some (n,k):=by
 cases h:l.length-k with
 |zero=>rfl
 |succ f=>rw[numGo,hd];rfl
theorem numGo_big{l:List UInt8}{n k:Nat}(hk:k<l.length)(hd:dig (ch l k)=true)(hb:20<n*10+(ch l k-48)):numGo l (l.length-k) n k=none:=by
 rw[show l.length-k=(l.length-(k+1))+1 by omega,numGo,if_pos hd,if_pos hb]
theorem numGo_more{l:List UInt8}{n k:Nat}(hk:k<l.length)(hd:dig (ch l k)=true)(hb:¬20<n*10+(ch l k-48)):numGo l (l.length-k) n k=numGo l (l.length-(k+1)) (n*10+(ch l k-48)) (k+1):=by
 rw[show l.length-k=(l.length-(k+1))+1 by omega,numGo,if_pos hd,if_neg hb]
theorem numGo_bd(l:List UInt8):∀f n k m e,n<=20->numGo l f n k=some (m,e)->m<=20/\k<=e/\e<=k+f
 |0,n,k,m,e,hn,h=>by
  rw[numGo]at h;cases h;exact⟨hn,Nat.le_refl _,by omega⟩
 |f+1,n,k,m,e,hn,h=>by
  rw[numGo]at h
  split at h
  ·split at h
   ·cases h
   ·have:=numGo_bd l f _ (k+1) m e (by omega) h
    omega
  ·cases h;exact⟨hn,Nat.le_refl _,by omega⟩
theorem num_bd{l:List UInt8}{i n e:Nat}(h:num l i=some (n,e)):n<=20/\i<e/\e<=l.length:=by
 unfold num at h
 split at h
 ·cases h
 ·rename_i m k hk
  split at h
  ·cases h
  ·cases h
   have:=numGo_bd l _ _ _ _ _ (by omega) hk
   omega
def ivl(l:List UInt8)(i:Nat):Option (Int×Int×Nat):=
 match num l i with
 |none=>none
 |some (m,j)=>
  if sw l j [44,92,125]=true then some (m,-1,j+3)
  else if sw l j [44]=true then
   match num l (j+1)with
   |none=>none
   |some (n,k)=>if n<m then none else if sw l k [92,125]=true then some (m,n,k+2)else none
  else if sw l j [92,125]=true then some (m,m,j+2)else none
theorem nmB_out{s:ByteArray}{n:Nat}(h:¬n+1<s.size):nmB s.data.toList n=false:=by
 unfold nmB;rw[len_data];simp[h]
theorem nmB_in{s:ByteArray}{n:Nat}(h:n+1<s.size):nmB s.data.toList n=(((s[n].toNat:Int)==91)&&(((s[n+1].toNat:Int)==58)||((s[n+1].toNat:Int)==46)||((s[n+1].toNat:Int)==61))):=by
 unfold nmB
 rw[len_data,<-ch_get s n (by omega),<-ch_get s (n+1) h,Bool.eq_iff_iff]
 simp[h]
 omega
theorem spB_out{s:ByteArray}{n:Nat}(h:¬n+1<s.size):spB s.data.toList n=false:=by
 unfold spB;rw[len_data];simp[h]
theorem spB_in{s:ByteArray}{n:Nat}(h:n+1<s.size):spB s.data.toList n=(((s[n].toNat:Int)==45)&&((s[n+1].toNat:Int) !=93)):=by
 unfold spB
 rw[len_data,<-ch_get s n (by omega),<-ch_get s (n+1) h,Bool.eq_iff_iff]
 simp[h]
 omega
theorem num_of{l:List UInt8}{i n e:Nat}(h:numGo l (l.length-i) 0 i=some (n,e)):num l i=if e=i then none else some (n,e):=by
 unfold num;rw[h]
theorem num_none{l:List UInt8}{i:Nat}(h:numGo l (l.length-i) 0 i=none):num l i=none:=by
 unfold num;rw[h]
def clsNames:List (List UInt8):= [[91,58,97,108,112,104,97,58,93],[91,58,100,105,103,105,116,58,93],[91,58,97,108,110,117,109,58,93],[91,58,117,112,112,101,114,58,93],[91,58,108,111,119,101,114,58,93],[91,58,115,112,97,99,101,58,93]]
def clsGo(l:List UInt8)(p:Nat):List (List UInt8)->Option Nat
 | []=>none
 |t::r=>if sw l p t=true then some t.length else clsGo l p r
def endB(l:List UInt8)(q:Nat):Bool:=decide (l.length<=q)||(ch l q==93)
def mstep(l:List UInt8)(p:Nat)(bc:Bool):Nat×Nat×Bool:=
 if nmB l p=true then
  match clsGo l p clsNames with
  |some k=>(0,p+k,true)
  |none=>(5,p,bc)
 else if(bc&&(ch l p==45)&&!endB l (p+1))=true then(6,p,bc)
 else if(sw l (p+1) [45]&&!endB l (p+2))=true then
  if(decide (l.length<=p+2)||decide (ch l (p+2)<ch l p)||nmB l (p+2))=true then(6,p,false)else(0,p+3,false)
 else(0,p+1,false)
theorem endB_out{s:ByteArray}{n:Nat}(h:¬n<s.size):endB s.data.toList n=true:=by
 unfold endB;rw[len_data];simp;omega
theorem endB_in{s:ByteArray}{n:Nat}(h:n<s.size):endB s.data.toList n=((s[n].toNat:Int)==93):=by
 unfold endB
 rw[len_data,<-ch_get s n h,Bool.eq_iff_iff]
 simp
 omega
theorem clsGo_bd(l:List UInt8)(p:Nat):∀ns k,(∀t∈ns,0<t.length)->clsGo l p ns=some k->p+k<=l.length/\0<k
 | [],_,_,h=>by cases h
 |t::r,k,hn,h=>by
  rw[clsGo]at h
  split at h
  ·rename_i hs
   have ht:=hn t (by simp)
   cases h
   refine⟨?_,ht⟩
   rcases Nat.lt_or_ge l.length (p+t.length)with hlt|hge
   ·rw[sw_len l p t hlt ht]at hs;cases hs
   ·exact hge
  ·exact clsGo_bd l p r k (fun t ht=>hn t (by simp[ht])) h
theorem cls_bd{l:List UInt8}{p k:Nat}(h:clsGo l p clsNames=some k):p+k<=l.length/\0<k:=clsGo_bd l p _ k (by decide) h
def brkGo(l:List UInt8)(start first:Nat):Nat->Nat->Bool->Nat×Nat
 |0,_,_=>(4,start)
 |f+1,p,bc=>
  if p<l.length then
   if((ch l p==93)&&decide (first<p))=true then(0,p+1)
   else if(mstep l p bc).1=0 then brkGo l start first f (mstep l p bc).2.1 (mstep l p bc).2.2
   else((mstep l p bc).1,(mstep l p bc).2.1)
  else(4,start)
def brkFirst(l:List UInt8)(start:Nat):Nat:=if sw l (start+1) [94]=true then start+2 else start+1
def brk(l:List UInt8)(start:Nat):Nat×Nat:=brkGo l start (brkFirst l start) 61 (brkFirst l start) false
theorem brkGo_out{l:List UInt8}{start first f p:Nat}{bc:Bool}(h:¬p<l.length):brkGo l start first f p bc=(4,start):=by
 cases f with
 |zero=>rfl
 |succ f=>rw[brkGo,if_neg h]
theorem brkGo_shut {l : List UInt8} {start first f p : Nat} {bc : Bool} (h : p < l.length) (h1 : ch l p = 93) (h2 : first < p) : brkGo l start first (f + 1) p bc = (0, p + 1) := by
 rw [brkGo, if_pos h, if_pos (by simp [h1, h2])]
theorem brkGo_err {l : List UInt8} {start first f p e p1 : Nat} {bc b1 : Bool} (h : p < l.length) (h1 : ((ch l p == 93) && decide (first < p)) = false) (hm : mstep l p bc = (e, p1, b1)) (he : e ≠ 0) : brkGo l start first (f + 1) p bc = (e, p1) := by
 rw [brkGo, if_pos h, if_neg (by simp [h1]), hm, if_neg he]
theorem brkGo_more {l : List UInt8} {start first f p p1 : Nat} {bc b1 : Bool} (h : p < l.length) (h1 : ((ch l p == 93) && decide (first < p)) = false) (hm : mstep l p bc = (0, p1, b1)) : brkGo l start first (f + 1) p bc = brkGo l start first f p1 b1 := by
 rw [brkGo, if_pos h, if_neg (by simp [h1]), hm, if_pos rfl]
theorem mstep_bd{l:List UInt8}{p e p1:Nat}{bc b1:Bool}(hp:p<l.length)(h:mstep l p bc=(e,p1,b1)):e<=6/\p1<=l.length/\p<=p1/\(e=0->p<p1)/\(e≠0->p1=p/\(e=5\/e=6)):=by
 unfold mstep at h
 split at h
 ·cases hc:clsGo l p clsNames with
  |none=>rw[hc]at h;simp at h;omega
  |some k=>
   have:=cls_bd hc
   rw[hc]at h;simp at h;omega
 ·split at h
  ·simp at h;omega
  ·split at h
   ·rename_i hsw
    have:p+2<l.length:=by
     simp[endB]at hsw
     omega
    split at h<;>(simp at h;omega)
   ·simp at h;omega
def addS(f:Nat->Bool)(c:Nat):Nat->Bool:=fun x=>f x||(x==c)
def addR(f:Nat->Bool)(a b:Nat):Nat->Bool:=fun x=>f x||(decide (a<=x)&&decide (x<=b))
def invS(f:Nat->Bool):Nat->Bool:=fun x=>!(f x)
def noS:Nat->Bool:=fun _=>false
def clsN(l:List UInt8)(p:Nat):List (List UInt8)->Option (List UInt8)
 | []=>none
 |t::r=>if sw l p t=true then some t else clsN l p r
theorem clsGo_T(l:List UInt8)(p:Nat):∀ns,clsGo l p ns=(clsN l p ns).map List.length
 | []=>rfl
 |t::r=>by
  rw[clsGo,clsN]
  split
  ·rfl
  ·exact clsGo_T l p r
def clsAdd(t:List UInt8)(f:Nat->Bool):Nat->Bool:=
 if t= [91,58,97,108,112,104,97,58,93]then addR (addR f 97 122) 65 90
 else if t= [91,58,100,105,103,105,116,58,93]then addR f 48 57
 else if t= [91,58,97,108,110,117,109,58,93]then addR (addR (addR f 97 122) 65 90) 48 57
 else if t= [91,58,117,112,112,101,114,58,93]then addR f 65 90
 else if t= [91,58,108,111,119,101,114,58,93]then addR f 97 122
 else if t= [91,58,115,112,97,99,101,58,93]then addS (addR f 9 13) 32
 else f
def clsF(f:Nat->Bool):Option (List UInt8)->Nat->Bool
 |some t=>clsAdd t f
 |none=>f
def rgF(l:List UInt8)(p c:Nat)(f:Nat->Bool):Nat->Bool:=if(decide (ch l (p+2)<c)||nmB l (p+2))=true then f else addR f c (ch l (p+2))
def mset(l:List UInt8)(p:Nat)(bc:Bool)(f:Nat->Bool):Nat->Bool:=
 if nmB l p=true then clsF f (clsN l p clsNames)
 else if(bc&&(ch l p==45)&&!endB l (p+1))=true then f
 else if(sw l (p+1) [45]&&!endB l (p+2))=true then rgF l p (ch l p) f
 else addS f (ch l p)
def brkS(l:List UInt8)(first:Nat):Nat->Nat->Bool->(Nat->Bool)->Nat->Bool
 |0,_,_,f=>f
 |n+1,p,bc,f=>
  if p<l.length then
   if((ch l p==93)&&decide (first<p))=true then f
   else if(mstep l p bc).1=0 then brkS l first n (mstep l p bc).2.1 (mstep l p bc).2.2 (mset l p bc f)
   else f
  else f
def brkSet(l:List UInt8)(start:Nat):Nat->Bool:=if sw l (start+1) [94]=true then invS (brkS l (brkFirst l start) 61 (brkFirst l start) false noS)else brkS l (brkFirst l start) 61 (brkFirst l start) false noS
theorem brkS_shut {l : List UInt8} {first n p : Nat} {bc : Bool} {f : Nat → Bool} (h : p < l.length) (h1 : ch l p = 93) (h2 : first < p) : brkS l first (n + 1) p bc f = f := by
 rw [brkS, if_pos h, if_pos (by simp [h1, h2])]
theorem brkS_more {l : List UInt8} {first n p p1 : Nat} {bc b1 : Bool} {f : Nat → Bool} (h : p < l.length) (h1 : ((ch l p == 93) && decide (first < p)) = false) (hm : mstep l p bc = (0, p1, b1)) : brkS l first (n + 1) p bc f = brkS l first n p1 b1 (mset l p bc f) := by
 rw [brkS, if_pos h, if_neg (by simp [h1]), hm, if_pos rfl]
def Word(z:Int)(f:Nat->Bool)(i:Nat):Prop:=0<=z/\z<4294967296/\∀j,j<32->z.toNat.testBit j=f (32*i+j)
theorem Word.zero(i:Nat):Word 0 noS i:=⟨by omega,by omega,fun j _=>by simp[noS]⟩
theorem Word.bit{z:Int}{f:Nat->Bool}{c:Nat}(h:Word z f (c/32)):z.toNat.testBit (c%32)=f c:=by
 have:=h.2.2 (c%32) (by omega)
 rwa [show 32*(c/32)+c%32=c by omega]at this
theorem Word.add{z:Int}{f:Nat->Bool}{c:Nat}(h:Word z f (c/32)):Word ((z.toNat|||2^(c%32):Nat):Int) (addS f c) (c/32):=by
 obtain⟨h0,h1,hb⟩:=h
 have hlt:z.toNat|||2^(c%32)<2^32:=Nat.or_lt_two_pow (by omega) (Nat.pow_lt_pow_right (by omega) (by omega))
 refine⟨by omega,by omega,fun j hj=>?_⟩
 rw[Int.toNat_natCast,Nat.testBit_or,hb j hj,Nat.testBit_two_pow]
 unfold addS
 congr 1
 by_cases e:c%32=j
 ·have:32*(c/32)+j=c:=by omega
  simp[e,this]
 ·have:¬(32*(c/32)+j=c):=by omega
  simp[e,this]
theorem Word.far{z:Int}{f:Nat->Bool}{c i:Nat}(h:Word z f i)(hi:i≠c/32):Word z (addS f c) i:=by
 refine⟨h.1,h.2.1,fun j hj=>?_⟩
 rw[h.2.2 j hj]
 unfold addS
 have:¬(32*i+j=c):=by omega
 simp[this]
theorem Word.inv{z:Int}{f:Nat->Bool}{i:Nat}(h:Word z f i):Word (4294967295-z) (invS f) i:=by
 obtain⟨h0,h1,hb⟩:=h
 refine⟨by omega,by omega,fun j hj=>?_⟩
 rw[show(4294967295-z).toNat=2^32-(z.toNat+1) by omega,Nat.testBit_two_pow_sub_succ (by omega),hb j hj]
 simp[invS,hj]
theorem addR_empty(f:Nat->Bool){a b:Nat}(h:b<a):addR f a b=f:=by
 funext x
 unfold addR
 by_cases h1:a<=x
 ·have:¬x<=b:=by omega
  simp[this]
 ·simp[h1]
end Go.Proofs.YtldiemjlpnachaaGreatDoor
set_option maxHeartbeats 1600000
namespace Go.Proofs.YtldiemjlpnachaaGreatDoor
open Go.RowKit
theorem ret_bool{a b:Bool}(h:a=b):Ending.returned (.bool a)= .returned (.bool b):=by rw[h]
theorem hasAt_any(s t:ByteArray)(i:Int)(w:World)(hs:s.size<=1000)(ht:t.size<=1000)(hp:0<t.size)(h0:0<=i)(h1:i<=2000):
  Calls Tryz.prog 64 #[.string s,.int .i64 i,.string t] w fun e w'=>e= .returned (.bool (sw s.data.toList i.toNat t.data.toList))/\w'=w:=by
 go_enter Tryz.func64,Tryz.ntmps64
 go_wp2
 all_goals go_ret
 all_goals first
  |exact⟨ret_bool (by rw[sw_len _ _ _ (by simp;omega) (by simpa using hp)]),rfl⟩
  |exact⟨ret_bool (by rw[show(i+(t.size:Int)).toNat=i.toNat+t.size by omega,sw_yes]),rfl⟩
theorem hasAt_at(s t:ByteArray)(i:Int)(p:Nat)(tl:List UInt8)(w:World)(hip:i=p)(htl:t.data.toList=tl)(hs:s.size<=1000)(ht:t.size<=1000)(hp:0<t.size)(h1:p<=2000):
  Calls Tryz.prog 64 #[.string s,.int .i64 i,.string t] w fun e w'=>e= .returned (.bool (sw s.data.toList p tl))/\w'=w:=by
 subst hip htl
 have:=hasAt_any s t p w hs ht hp (by omega) (by omega)
 rwa [Int.toNat_natCast]at this
theorem begins_any(s:ByteArray)(i:Int)(w:World)(h0:0<=i)(h1:i<=2000):
  Calls Tryz.prog 99 #[.string s,.int .i64 i] w fun e w'=>e= .returned (.bool (nmB s.data.toList i.toNat))/\w'=w:=by
 obtain⟨n,rfl⟩:=Int.eq_ofNat_of_zero_le h0
 rw[Int.toNat_natCast]
 go_enter Tryz.func99,Tryz.ntmps99
 go_wp2
 all_goals go_ret
 all_goals refine⟨ret_bool ?_,rfl⟩
 all_goals go_light
 all_goals first|(rw[nmB_out (by omega)];done)|(rw[nmB_in (by omega)];simp_all;done)|(rw[nmB_in (by omega)];simp_all;omega)
theorem begins_at(s:ByteArray)(i:Int)(p:Nat)(w:World)(hip:i=p)(h1:p<=2000):
  Calls Tryz.prog 99 #[.string s,.int .i64 i] w fun e w'=>e= .returned (.bool (nmB s.data.toList p))/\w'=w:=by
 subst hip
 have:=begins_any s p w (by omega) (by omega)
 rwa [Int.toNat_natCast]at this
def numV:Option (Nat×Nat)->Value
 |some (n,k)=> .tuple #[.int .i64 n,.int .i64 k,.bool true]
 |none=> .tuple #[.int .i64 0,.int .i64 0,.bool false]
theorem hd{p:Prop}(h:p):Hid p:=h
theorem dig_in{s:ByteArray}{k:Nat}(h:k<s.size):dig (ch s.data.toList k)=decide (48<=(s[k].toNat:Int)/\(s[k].toNat:Int)<=57):=by
 unfold dig
 rw[<-ch_get s k h,Bool.eq_iff_iff]
 simp
 omega
theorem rn_big{s:ByteArray}{k n a:Nat}{r:Option (Nat×Nat)}(h:k<s.size)(h1:48<=(s[k].toNat:Int))(h2:(s[k].toNat:Int)<=57)(h3:20<(n:Int)*10+((s[k].toNat:Int)-48))
  (hg:numGo s.data.toList (s.data.toList.length-k) n k=numGo s.data.toList (s.data.toList.length-a) 0 a)(hr:num s.data.toList a=r):r=none:=by
 rw[<-hr]
 apply num_none
 rw[<-hg]
 have:=ch_get s k h
 exact numGo_big (by simpa using h) (by rw[dig_in h];simp;omega) (by omega)
theorem rn_more{s:ByteArray}{k n a:Nat}(h:k<s.size)(h1:48<=(s[k].toNat:Int))(h2:(s[k].toNat:Int)<=57)(h3:¬20<(n:Int)*10+((s[k].toNat:Int)-48))
  (hg:numGo s.data.toList (s.data.toList.length-k) n k=numGo s.data.toList (s.data.toList.length-a) 0 a):
  numGo s.data.toList (s.data.toList.length-(k+1)) (n*10+(s[k].toNat-48)) (k+1)=numGo s.data.toList (s.data.toList.length-a) 0 a:=by
 rw[<-hg]
 have hc:=ch_get s k h
 have hm:48<=ch s.data.toList k/\ch s.data.toList k<=57:=by omega
 rw[hc]
 rw[hc]at h3
 exact(numGo_more (by simpa using h) (by unfold dig;simpa using hm) (by omega)).symm
theorem rn_end{s:ByteArray}{k n a:Nat}{r:Option (Nat×Nat)}(h0:numGo s.data.toList (s.data.toList.length-k) n k=some (n,k))
  (hg:numGo s.data.toList (s.data.toList.length-k) n k=numGo s.data.toList (s.data.toList.length-a) 0 a)(hr:num s.data.toList a=r):r=if k=a then none else some (n,k):=by
 rw[<-hr]
 exact num_of (hg.symm.trans h0)
theorem rn_no{s:ByteArray}{k n:Nat}(h:k<s.size)(h1:(s[k].toNat:Int)<48\/57<(s[k].toNat:Int)):numGo s.data.toList (s.data.toList.length-k) n k=some (n,k):=
 numGo_no (by rw[dig_in h];simp;omega)
theorem rn_same{s:ByteArray}{k n a:Nat}{r:Option (Nat×Nat)}(h:k<s.size)(h1:(s[k].toNat:Int)<48\/57<(s[k].toNat:Int))(e:k=a)
  (hg:numGo s.data.toList (s.data.toList.length-k) n k=numGo s.data.toList (s.data.toList.length-a) 0 a)(hr:num s.data.toList a=r):r=none:=by
 rw[rn_end (rn_no h h1) hg hr,if_pos e]
theorem rn_stop{s:ByteArray}{k n a:Nat}{r:Option (Nat×Nat)}(h:k<s.size)(h1:(s[k].toNat:Int)<48\/57<(s[k].toNat:Int))(e:k≠a)
  (hg:numGo s.data.toList (s.data.toList.length-k) n k=numGo s.data.toList (s.data.toList.length-a) 0 a)(hr:num s.data.toList a=r):r=some (n,k):=by
 rw[rn_end (rn_no h h1) hg hr,if_neg e]
theorem rn_same'{s:ByteArray}{k n a:Nat}{r:Option (Nat×Nat)}(h:¬k<s.size)(e:k=a)
  (hg:numGo s.data.toList (s.data.toList.length-k) n k=numGo s.data.toList (s.data.toList.length-a) 0 a)(hr:num s.data.toList a=r):r=none:=by
 rw[rn_end (numGo_end (by simpa using h)) hg hr,if_pos e]
theorem rn_stop'{s:ByteArray}{k n a:Nat}{r:Option (Nat×Nat)}(h:¬k<s.size)(e:k≠a)
  (hg:numGo s.data.toList (s.data.toList.length-k) n k=numGo s.data.toList (s.data.toList.length-a) 0 a)(hr:num s.data.toList a=r):r=some (n,k):=by
 rw[rn_end (numGo_end (by simpa using h)) hg hr,if_neg e]
theorem readNumber_any(s:ByteArray)(i:Int)(r:Option (Nat×Nat))(w:World)(hs:s.size<=1000)(h0:0<=i)(h1:i<=2000)(hr:num s.data.toList i.toNat=r):
  Calls Tryz.prog 98 #[.string s,.int .i64 i] w fun e w'=>e= .returned (numV r)/\w'=w:=by
 have hl:=len_data s
 obtain⟨a,rfl⟩:=Int.eq_ofNat_of_zero_le h0
 rw[Int.toNat_natCast]at hr
 have Hr:=hd hr
 have Hl:=hd hl
 clear hr hl
 go_enter Tryz.func98,Tryz.ntmps98
 go_wp2
 go_loop [1,7] (fun p m=>∃k n:Nat,p= .int .i64 k/\m= .int .i64 n/\n<=20/\a<=k/\k<=2000/\Hid (numGo s.data.toList (s.data.toList.length-k) n k=numGo s.data.toList (s.data.toList.length-a) 0 a)) (fun p _=>2000-(intOf p).toNat)
 case atStart=>exact⟨a,0,rfl,rfl,by omega,by omega,by omega,hd rfl⟩
 case round=>
  obtain⟨k,n,rfl,rfl,hn,hak,hk,HG⟩:=hrel
  by_cases hlt:k<s.size
  ·by_cases hdg:48<=(s[k].toNat:Int)/\(s[k].toNat:Int)<=57
   ·obtain⟨hd1,hd2⟩:=hdg
    by_cases hbig:20<(n:Int)*10+((s[k].toNat:Int)-48)
    ·go_wp2
     go_ret3
     rw[rn_big hlt hd1 hd2 hbig HG.out Hr.out]
     exact⟨rfl,rfl⟩
    ·go_wp2
     go_round
     case rel=>exact⟨k+1,n*10+(s[k].toNat-48),by go_num,by go_num,by omega,by omega,by omega,hd (rn_more hlt hd1 hd2 hbig HG.out)⟩
     case measure=>simp[intOf];omega
   ·have hno:(s[k].toNat:Int)<48\/57<(s[k].toNat:Int):=by omega
    have Hno:=hd hno
    clear hdg hno
    by_cases hka:k=a
    ·have hb:((k:Int)==(a:Int))=true:=by simp[hka]
     have Hr':=hd (rn_same hlt Hno.out hka HG.out Hr.out)
     clear hka
     rcases Hno.out with h|h
     all_goals go_wp2
     all_goals go_ret3
     all_goals rw[Hr'.out]
     all_goals exact⟨rfl,rfl⟩
    ·have hb:((k:Int)==(a:Int))=false:=by simp;omega
     have Hr':=hd (rn_stop hlt Hno.out hka HG.out Hr.out)
     rcases Hno.out with h|h
     all_goals go_wp2
     all_goals go_ret3
     all_goals rw[Hr'.out]
     all_goals exact⟨rfl,rfl⟩
  ·by_cases hka:k=a
   ·have hb:((k:Int)==(a:Int))=true:=by simp[hka]
    have Hr':=hd (rn_same' hlt hka HG.out Hr.out)
    clear hka
    go_wp2
    go_ret3
    rw[Hr'.out]
    exact⟨rfl,rfl⟩
   ·have hb:((k:Int)==(a:Int))=false:=by simp;omega
    have Hr':=hd (rn_stop' hlt hka HG.out Hr.out)
    go_wp2
    go_ret3
    rw[Hr'.out]
    exact⟨rfl,rfl⟩
end Go.Proofs.YtldiemjlpnachaaGreatDoor
namespace Go.Proofs.YtldiemjlpnachaaGreatDoor
open Go.RowKit
def ivV:Option (Int×Int×Nat)->Value
 |some (m,n,k)=> .tuple #[.int .i64 m,.int .i64 n,.int .i64 k,.bool true]
 |none=> .tuple #[.int .i64 0,.int .i64 0,.int .i64 0,.bool false]
theorem sw_tail{l:List UInt8}{j:Nat}{a:UInt8}{t:List UInt8}(h:sw l j (a::t)=true):sw l (j+1) t=true:=by
 rw[sw_cons]at h
 simp at h
 exact h.2
theorem ivl_le{l:List UInt8}{i k:Nat}{m n:Int}(h:ivl l i=some (m,n,k)):n= -1\/m<=n:=by
 unfold ivl at h
 split at h
 ·cases h
 ·split at h
  ·simp at h;omega
  ·split at h
   ·split at h
    ·cases h
    ·split at h
     ·cases h
     ·split at h
      ·simp at h;omega
      ·cases h
   ·split at h
    ·simp at h;omega
    ·cases h
theorem ivl_bd{l:List UInt8}{i k:Nat}{m n:Int}(h:ivl l i=some (m,n,k)):0<=m/\m<=20/\ -1<=n/\n<=20/\i+2<k/\k<=l.length:=by
 unfold ivl at h
 split at h
 ·cases h
 ·rename_i m' j hn
  have hb:=num_bd hn
  have key:∀(t:List UInt8) (p:Nat),sw l p t=true->0<t.length->p+t.length<=l.length:=by
   intro t p hp ht
   rcases Nat.lt_or_ge l.length (p+t.length)with hlt|hge
   ·rw[sw_len l p t hlt ht]at hp;cases hp
   ·exact hge
  split at h
  ·rename_i h3
   have:=key _ _ h3 (by simp)
   simp at h this
   omega
  ·split at h
   ·split at h
    ·cases h
    ·rename_i n' k' hn'
     have hb':=num_bd hn'
     split at h
     ·cases h
     ·split at h
      ·rename_i h2
       have:=key _ _ h2 (by simp)
       simp at h this
       omega
      ·cases h
   ·split at h
    ·rename_i h2
     have:=key _ _ h2 (by simp)
     simp at h this
     omega
    ·cases h
theorem readInterval_any(s:ByteArray)(i:Int)(w:World)(hs:s.size<=1000)(h0:0<=i)(h1:i<=2000):
  Calls Tryz.prog 79 #[.string s,.int .i64 i] w fun e w'=>e= .returned (ivV (ivl s.data.toList i.toNat))/\w'=w:=by
 have Hl:=hd (len_data s)
 obtain⟨a,rfl⟩:=Int.eq_ofNat_of_zero_le h0
 rw[Int.toNat_natCast]
 cases hn:num s.data.toList a with
 |none=>
  have Hv:Hid (ivl s.data.toList a=none):=by unfold ivl;rw[hn];exact hd rfl
  have Hn:=hd hn
  clear hn
  go_enter Tryz.func79,Tryz.ntmps79
  go_wp2_with (go_at_call 98;refine(readNumber_any s _ none _ hs (by omega) (by omega) (by simpa using Hn.out)).mono ?_;rintro e w' ⟨rfl,rfl⟩;simp only[numV])
  exact bodyPost_ret (v:=ivV none) (by simp[results,Tryz.results79,go_sem,ivV]) rfl ⟨by rw[Hv.out],rfl⟩
 |some p=>
  obtain⟨m,j⟩:=p
  have hb:=num_bd hn
  rw[Hl.out]at hb
  have Hn:=hd hn
  clear hn
  by_cases h3:sw s.data.toList j [44,92,125]=true
  ·have Hv:Hid (ivl s.data.toList a=some ((m:Int),-1,j+3)):=by unfold ivl;rw[Hn.out];simp[h3,Hid]
   have h3':=sw_tail h3
   go_enter Tryz.func79,Tryz.ntmps79
   go_wp2_with (first
    |(go_at_call 98;refine(readNumber_any s _ (some (m,j)) _ hs (by omega) (by omega) (by simpa using Hn.out)).mono ?_;rintro e w' ⟨rfl,rfl⟩;simp only[numV])
    |(go_at_call 64;refine(hasAt_any s _ _ _ hs (by decide) (by decide) (by omega) (by omega)).mono ?_;rintro e w' ⟨rfl,rfl⟩))
   exact bodyPost_ret (v:=ivV (some ((m:Int),-1,j+3))) (by simp[results,Tryz.results79,go_sem,ivV];omega) rfl ⟨by rw[Hv.out],rfl⟩
  ·have h3f:sw s.data.toList j [44,92,125]=false:=by simpa using h3
   clear h3
   by_cases h1c:sw s.data.toList j [44]=true
   ·cases hn2:num s.data.toList (j+1)with
    |none=>
     have Hv:Hid (ivl s.data.toList a=none):=by unfold ivl;rw[Hn.out];simp[h3f,h1c,hn2,Hid]
     have Hn2:=hd hn2
     clear hn2
     go_enter Tryz.func79,Tryz.ntmps79
     go_wp2_with fail
     refine(readNumber_any s _ (some (m,j)) _ hs (by omega) (by omega) (by simpa using Hn.out)).mono ?_;rintro e w' ⟨rfl,rfl⟩;simp only[numV]
     go_wp2_with (first
      |(go_at_call 98;refine(readNumber_any s _ none _ hs (by omega) (by omega) (by simpa using Hn2.out)).mono ?_;rintro e w' ⟨rfl,rfl⟩;simp only[numV])
      |(go_at_call 64;refine(hasAt_any s _ _ _ hs (by decide) (by decide) (by omega) (by omega)).mono ?_;rintro e w' ⟨rfl,rfl⟩))
     exact bodyPost_ret (v:=ivV none) (by simp[results,Tryz.results79,go_sem,ivV]) rfl ⟨by rw[Hv.out],rfl⟩
    |some p2=>
     obtain⟨n,k⟩:=p2
     have hb2:=num_bd hn2
     rw[Hl.out]at hb2
     have Hn2:=hd hn2
     clear hn2
     by_cases hlt:n<m
     ·have Hv:Hid (ivl s.data.toList a=none):=by unfold ivl;rw[Hn.out];simp[h3f,h1c,Hn2.out,hlt,Hid]
      go_enter Tryz.func79,Tryz.ntmps79
      go_wp2_with fail
      refine(readNumber_any s _ (some (m,j)) _ hs (by omega) (by omega) (by simpa using Hn.out)).mono ?_;rintro e w' ⟨rfl,rfl⟩;simp only[numV]
      go_wp2_with (first
       |(go_at_call 98;refine(readNumber_any s _ (some (n,k)) _ hs (by omega) (by omega) (by simpa using Hn2.out)).mono ?_;rintro e w' ⟨rfl,rfl⟩;simp only[numV])
       |(go_at_call 64;refine(hasAt_any s _ _ _ hs (by decide) (by decide) (by omega) (by omega)).mono ?_;rintro e w' ⟨rfl,rfl⟩))
      exact bodyPost_ret (v:=ivV none) (by simp[results,Tryz.results79,go_sem,ivV]) rfl ⟨by rw[Hv.out],rfl⟩
     ·by_cases h2:sw s.data.toList k [92,125]=true
      ·have Hv:Hid (ivl s.data.toList a=some ((m:Int),(n:Int),k+2)):=by unfold ivl;rw[Hn.out];simp[h3f,h1c,Hn2.out,hlt,h2,Hid]
       go_enter Tryz.func79,Tryz.ntmps79
       go_wp2_with fail
       refine(readNumber_any s _ (some (m,j)) _ hs (by omega) (by omega) (by simpa using Hn.out)).mono ?_;rintro e w' ⟨rfl,rfl⟩;simp only[numV]
       go_wp2_with (first
        |(go_at_call 98;refine(readNumber_any s _ (some (n,k)) _ hs (by omega) (by omega) (by simpa using Hn2.out)).mono ?_;rintro e w' ⟨rfl,rfl⟩;simp only[numV])
        |(go_at_call 64;refine(hasAt_any s _ _ _ hs (by decide) (by decide) (by omega) (by omega)).mono ?_;rintro e w' ⟨rfl,rfl⟩))
       exact bodyPost_ret (v:=ivV (some ((m:Int),(n:Int),k+2))) (by simp[results,Tryz.results79,go_sem,ivV]) rfl ⟨by rw[Hv.out],rfl⟩
      ·have h2f:sw s.data.toList k [92,125]=false:=by simpa using h2
       clear h2
       have Hv:Hid (ivl s.data.toList a=none):=by unfold ivl;rw[Hn.out];simp[h3f,h1c,Hn2.out,hlt,h2f,Hid]
       go_enter Tryz.func79,Tryz.ntmps79
       go_wp2_with fail
       refine(readNumber_any s _ (some (m,j)) _ hs (by omega) (by omega) (by simpa using Hn.out)).mono ?_;rintro e w' ⟨rfl,rfl⟩;simp only[numV]
       go_wp2_with (first
        |(go_at_call 98;refine(readNumber_any s _ (some (n,k)) _ hs (by omega) (by omega) (by simpa using Hn2.out)).mono ?_;rintro e w' ⟨rfl,rfl⟩;simp only[numV])
        |(go_at_call 64;refine(hasAt_any s _ _ _ hs (by decide) (by decide) (by omega) (by omega)).mono ?_;rintro e w' ⟨rfl,rfl⟩))
       exact bodyPost_ret (v:=ivV none) (by simp[results,Tryz.results79,go_sem,ivV]) rfl ⟨by rw[Hv.out],rfl⟩
   ·have h1f:sw s.data.toList j [44]=false:=by simpa using h1c
    clear h1c
    by_cases h2:sw s.data.toList j [92,125]=true
    ·have Hv:Hid (ivl s.data.toList a=some ((m:Int),(m:Int),j+2)):=by unfold ivl;rw[Hn.out];simp[h3f,h1f,h2,Hid]
     go_enter Tryz.func79,Tryz.ntmps79
     go_wp2_with (first
      |(go_at_call 98;refine(readNumber_any s _ (some (m,j)) _ hs (by omega) (by omega) (by simpa using Hn.out)).mono ?_;rintro e w' ⟨rfl,rfl⟩;simp only[numV])
      |(go_at_call 64;refine(hasAt_any s _ _ _ hs (by decide) (by decide) (by omega) (by omega)).mono ?_;rintro e w' ⟨rfl,rfl⟩))
     exact bodyPost_ret (v:=ivV (some ((m:Int),(m:Int),j+2))) (by simp[results,Tryz.results79,go_sem,ivV]) rfl ⟨by rw[Hv.out],rfl⟩
    ·have h2f:sw s.data.toList j [92,125]=false:=by simpa using h2
     clear h2
     have Hv:Hid (ivl s.data.toList a=none):=by unfold ivl;rw[Hn.out];simp[h3f,h1f,h2f,Hid]
     go_enter Tryz.func79,Tryz.ntmps79
     go_wp2_with (first
      |(go_at_call 98;refine(readNumber_any s _ (some (m,j)) _ hs (by omega) (by omega) (by simpa using Hn.out)).mono ?_;rintro e w' ⟨rfl,rfl⟩;simp only[numV])
      |(go_at_call 64;refine(hasAt_any s _ _ _ hs (by decide) (by decide) (by omega) (by omega)).mono ?_;rintro e w' ⟨rfl,rfl⟩))
     exact bodyPost_ret (v:=ivV none) (by simp[results,Tryz.results79,go_sem,ivV]) rfl ⟨by rw[Hv.out],rfl⟩
end Go.Proofs.YtldiemjlpnachaaGreatDoor

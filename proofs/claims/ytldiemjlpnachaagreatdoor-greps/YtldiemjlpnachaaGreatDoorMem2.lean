import Derived.Test.YtldiemjlpnachaaGreatDoorMem
import Derived.Deep.RegionWith
set_option maxHeartbeats 3200000
set_option maxRecDepth 100000
namespace Go.Proofs.YtldiemjlpnachaaGreatDoor
open Go.RowKit
variable {f : Nat → Bool}
theorem u8le(u:UInt8):(u.toNat:Int)<=255:=by
 have:=u.toNat_lt
 omega
theorem wrapI(x:Int)(h0:0<=x)(h1:x<=1000000):IntKind.i64.wrap x=x:=by
 rw[IntKind.wrap_i64]
 omega
def rgE(l:List UInt8)(p c:Nat):Int:=if(decide (ch l (p+2)<c)||nmB l (p+2))=true then 6 else 0
def rgP(l:List UInt8)(p c:Nat):Nat:=if(decide (ch l (p+2)<c)||nmB l (p+2))=true then p else p+3
theorem rg_yes{l:List UInt8}{p c:Nat}(h:(decide (ch l (p+2)<c)||nmB l (p+2))=true):Hid (rgE l p c=6/\rgP l p c=p/\rgF l p c f=f):=by
 unfold rgE rgP rgF;rw[if_pos h,if_pos h,if_pos h];exact⟨rfl,rfl,rfl⟩
theorem rg_no{l:List UInt8}{p c:Nat}(h:¬(decide (ch l (p+2)<c)||nmB l (p+2))=true):Hid (rgE l p c=0/\rgP l p c=p+3/\rgF l p c f=addR f c (ch l (p+2))):=by
 unfold rgE rgP rgF;rw[if_neg h,if_neg h,if_neg h];exact⟨rfl,rfl,rfl⟩
theorem byteRange_any(M:Nat)(s:ByteArray)(p:Nat)(bc:Bool)(c:Nat)(w:World)(hm:Mem w M s p bc f)(hs:s.size<=60)(hp:p+2<s.size)(hc:c<256):
  Calls Tryz.prog 102 #[.pointer (some ⟨M,0,none⟩),.int .u8 c] w fun e w'=>
   e= .returned (.int .i64 (rgE s.data.toList p c))/\Mem w' M s (rgP s.data.toList p c) bc (rgF s.data.toList p c f)/\Only w w' M 0 11:=by
 have c0:=hm.c0
 have c1:=hm.c1
 have f1:=hm.f1
 have q0:(0:Int)<=(p:Int)+2:=by omega
 have q1:(p:Int)+2<(s.size:Int):=by omega
 have w2:=wrapI ((p:Int)+2) (by omega) (by omega)
 have q2:decide ((s.size:Int)<=(p:Int)+2)=false:=by simp;omega
 have hcg:=ch_get s (p+2) hp
 have Hcg:=hd hcg
 have hb:=ch_lt s.data.toList (p+2)
 rw[<-hcg]at hb
 by_cases hlt:(s[p+2].toNat:Int)<(c:Int)
 ·have Hz:=rg_yes (f:=f) (l:=s.data.toList) (p:=p) (c:=c) (by rw[<-hcg];simp;left;omega)
  clear hcg
  go_enter Tryz.func102,Tryz.ntmps102
  go_wp2
  go_quiet (fail)
  go_wp2
  go_ret
  rw[Hz.out.1,Hz.out.2.1,Hz.out.2.2]
  exact⟨rfl,hm.drewN,(Only.refl _ _ _ _).drewN⟩
 ·have htn:((p:Int)+2).toNat=p+2:=by omega
  have hdf:∀(h:((p:Int)+2).toNat<s.size),decide ((s[((p:Int)+2).toNat]'h).toNat<c)=false:=by
   intro h
   simp only[htn]
   simp
   omega
  clear htn
  by_cases hn:nmB s.data.toList (p+2)=true
  ·have Hz:=rg_yes (f:=f) (l:=s.data.toList) (p:=p) (c:=c) (by rw[hn];simp)
   clear hcg
   go_enter Tryz.func102,Tryz.ntmps102
   go_wp2
   go_quiet ((go_at_call 99;exact Calls.quiet_of_same (begins_at s _ (p+2) _ (by omega) (by omega))))
   go_wp2
   go_ret
   rw[Hz.out.1,Hz.out.2.1,Hz.out.2.2]
   exact⟨rfl,hm.drewN,(Only.refl _ _ _ _).drewN⟩
  ·have hnf:nmB s.data.toList (p+2)=false:=by simpa using hn
   clear hn
   have Hz:=rg_no (f:=f) (l:=s.data.toList) (p:=p) (c:=c) (by rw[hnf,<-hcg];simp;omega)
   clear hcg
   go_enter Tryz.func102,Tryz.ntmps102
   go_wp2
   go_quiet ((go_at_call 99;exact Calls.quiet_of_same (begins_at s _ (p+2) _ (by omega) (by omega))))
   go_wp2
   go_region_with ((go_at_call 63;refine(addRange_any M 2 _ _ _ (by omega) (by omega) (by omega) (u8le _) (by exact hm.set.drewN)).mono ?_;rintro e w2 ⟨rfl,hs2,ho2⟩))
   all_goals
    have hm2:Mem w2 M s p bc (addR f c (ch s.data.toList (p+2))):=hm.drewN.only ho2 hs2.1 (by rw[<-Hcg.out];exact hs2.2 _ hm.is.drewN)
    have Ho2:Hid (Only w w2 M 0 11):=hd ((Only.refl _ _ _ _).drewN.trans (ho2.mono (by omega) (by omega)))
    have d1:=hm2.c1
    have e1:=hm2.f1
    clear ho2
    go_wp2
    go_ret
    rw[Hz.out.1,Hz.out.2.1,Hz.out.2.2]
    exact⟨rfl,by simpa using hm2.moved1 (q:=p+3),Ho2.out.setCell _ (by omega) _⟩
end Go.Proofs.YtldiemjlpnachaaGreatDoor
namespace Go.Proofs.YtldiemjlpnachaaGreatDoor
open Go.RowKit
variable {f : Nat → Bool}
theorem NamesIn.only{w w':World}{B o n:Nat}(h:NamesIn w)(k:Only w w' B o n)(hB:B≠4):NamesIn w':=by
 obtain⟨h0,h1,h2,h3,h4,h5⟩:=h
 exact⟨(k.far _ (Ne.symm hB)).trans h0,(k.far _ (Ne.symm hB)).trans h1,(k.far _ (Ne.symm hB)).trans h2,(k.far _ (Ne.symm hB)).trans h3,(k.far _ (Ne.symm hB)).trans h4,(k.far _ (Ne.symm hB)).trans h5⟩
theorem NamesIn.drewN{w:World}{n:Nat}(h:NamesIn w):NamesIn (w.drewN n):=h
theorem mstep_cls{l:List UInt8}{p:Nat}{bc:Bool}(h:nmB l p=true):mstep l p bc=((clsE (clsN l p clsNames)).toNat,clsP p (clsN l p clsNames),clsB bc (clsN l p clsNames)):=by
 unfold mstep
 rw[if_pos h,clsGo_T]
 cases clsN l p clsNames<;>rfl
theorem mset_rg{l:List UInt8}{p:Nat}{bc:Bool}{c:Nat}(hnm:nmB l p=false)(hc:ch l p=c)(h1:(bc&&(ch l p==45)&&!endB l (p+1))=false)(hsw:sw l (p+1) [45]=true)(he2:endB l (p+2)=false):mset l p bc f=rgF l p c f:=by
 unfold mset
 rw[hnm,h1,hsw,he2,hc]
 simp
theorem clsE_nat(o:Option (List UInt8)):((clsE o).toNat:Int)=clsE o:=by cases o<;>rfl
theorem mstep_a(M:Nat)(s:ByteArray)(p:Nat)(bc:Bool)(c e0 p1:Nat)(b1:Bool)(w:World)(hm:Mem w M s p bc f)(hn:NamesIn w)(hs:s.size<=60)(hp:p<s.size)
  (hnm:nmB s.data.toList p=true)(hr:mstep s.data.toList p bc=(e0,p1,b1)):
  Calls Tryz.prog 82 #[.pointer (some ⟨M,0,none⟩),.int .u8 c] w fun e w'=>e= .returned (.int .i64 e0)/\Mem w' M s p1 b1 (mset s.data.toList p bc f)/\Only w w' M 0 11:=by
 have c0:=hm.c0
 have c1:=hm.c1
 have hx:=hr.symm.trans (mstep_cls hnm)
 rw[show mset s.data.toList p bc f=clsF f (clsN s.data.toList p clsNames) by unfold mset;rw[if_pos hnm]]
 simp only[Prod.mk.injEq]at hx
 obtain⟨rfl,rfl,rfl⟩:=hx
 clear hr
 rw[clsE_nat]
 go_enter Tryz.func82,Tryz.ntmps82
 go_wp2
 go_quiet ((go_at_call 99;exact Calls.quiet_of_same (begins_at s _ p _ rfl (by omega))))
 simp only[hnm]
 go_wp2_with fail
 refine(class_any M s p bc _ hm.drewN hn.drewN hs (by omega)).mono ?_
 rintro e w' ⟨rfl,hm',ho'⟩
 go_wp2
 go_ret
 exact⟨rfl,hm',(Only.refl _ _ _ _).drewN.trans ho'⟩
theorem hasAt_b(s t:ByteArray)(i:Int)(p:Nat)(tl:List UInt8)(b:Bool)(w:World)(hb:sw s.data.toList p tl=b)(hip:i=p)(htl:t.data.toList=tl)(hs:s.size<=1000)(ht:t.size<=1000)(hp:0<t.size)(h1:p<=2000):
  Calls Tryz.prog 64 #[.string s,.int .i64 i,.string t] w fun e w'=>e= .returned (.bool b)/\w'=w:=by
 subst hb
 exact hasAt_at s t i p tl w hip htl hs ht hp h1
theorem endsAt_b(M:Nat)(s:ByteArray)(p:Nat)(bc:Bool)(i:Int)(q:Nat)(b:Bool)(w:World)(hb:endB s.data.toList q=b)(hiq:i=q)(hm:Mem w M s p bc f):
  Calls Tryz.prog 101 #[.pointer (some ⟨M,0,none⟩),.int .i64 i] w fun e w'=>e= .returned (.bool b)/\w'=w:=by
 subst hb
 exact endsAt_at M s p bc i q w hiq hm
theorem mstep_b(M:Nat)(s:ByteArray)(p:Nat)(bc:Bool)(c e0 p1:Nat)(b1:Bool)(w:World)(hm:Mem w M s p bc f)(hs:s.size<=60)(hp:p<s.size)(hc:ch s.data.toList p=c)
  (hnm:nmB s.data.toList p=false)(hb:bc=true)(h45:c=45)(he:endB s.data.toList (p+1)=false)(hr:mstep s.data.toList p bc=(e0,p1,b1)):
  Calls Tryz.prog 82 #[.pointer (some ⟨M,0,none⟩),.int .u8 c] w fun e w'=>e= .returned (.int .i64 e0)/\Mem w' M s p1 b1 (mset s.data.toList p bc f)/\Only w w' M 0 11:=by
 have c0:=hm.c0
 have c1:=hm.c1
 have c10:=hm.c10
 have f1:=hm.f1
 have f10:=hm.f10
 have w1':=wrapI ((p:Int)+1) (by omega) (by omega)
 have w2':=wrapI ((p:Int)+2) (by omega) (by omega)
 have hc256:=ch_lt s.data.toList p
 rw[hc]at hc256
 have hx:=(show mstep s.data.toList p bc=(6,p,bc) by unfold mstep;simp[hnm,hb,hc,h45,he]).symm.trans hr
 rw[show mset s.data.toList p bc f=f by unfold mset;simp[hnm,hb,hc,h45,he]]
 simp only[Prod.mk.injEq]at hx
 obtain⟨rfl,rfl,rfl⟩:=hx
 clear hr
 clear hc
 subst hb h45
 go_enter Tryz.func82,Tryz.ntmps82
 go_wp2
 go_quiet ((go_at_call 99;exact Calls.quiet_of_same (begins_at s _ p _ rfl (by omega))))
 simp only[hnm]
 go_wp2_with (go_at_call 101;refine(endsAt_at M s p _ _ (p+1) _ (by omega) (by exact hm.drewN)).mono ?_;rintro e w' ⟨rfl,rfl⟩)
 go_ret
 exact⟨rfl,hm.drewN,(Only.refl _ _ _ _).drewN⟩
theorem rgE_nat(l:List UInt8)(p c:Nat):((rgE l p c).toNat:Int)=rgE l p c:=by unfold rgE;split<;>rfl
theorem mstep_rg{l:List UInt8}{p:Nat}{bc:Bool}{c:Nat}(hnm:nmB l p=false)(hc:ch l p=c)(h1:(bc&&(ch l p==45)&&!endB l (p+1))=false)(hsw:sw l (p+1) [45]=true)(he2:endB l (p+2)=false)(hp2:p+2<l.length):
  mstep l p bc=((rgE l p c).toNat,rgP l p c,false):=by
 unfold mstep
 rw[hnm,h1,hsw,he2,hc]
 have hd:decide (l.length<=p+2)=false:=by simp;omega
 rw[hd]
 unfold rgE rgP
 cases h:(decide (ch l (p+2)<c)||nmB l (p+2))<;>simp[h]
theorem mstep_fs(M:Nat)(s:ByteArray)(p:Nat)(bc:Bool)(c e0 p1:Nat)(b1:Bool)(w:World)(hm:Mem w M s p bc f)(hs:s.size<=60)(hp:p<s.size)(hc:ch s.data.toList p=c)
  (hnm:nmB s.data.toList p=false)(hb:bc=false)(hsw:sw s.data.toList (p+1) [45]=false)(hr:mstep s.data.toList p bc=(e0,p1,b1)):
  Calls Tryz.prog 82 #[.pointer (some ⟨M,0,none⟩),.int .u8 c] w fun e w'=>e= .returned (.int .i64 e0)/\Mem w' M s p1 b1 (mset s.data.toList p bc f)/\Only w w' M 0 11:=by
 have c0:=hm.c0
 have c1:=hm.c1
 have c10:=hm.c10
 have f1:=hm.f1
 have f10:=hm.f10
 have w1':=wrapI ((p:Int)+1) (by omega) (by omega)
 have w2':=wrapI ((p:Int)+2) (by omega) (by omega)
 have hc256:=ch_lt s.data.toList p
 rw[hc]at hc256
 have hx:=(show mstep s.data.toList p bc=(0,p+1,false) by unfold mstep;simp[hnm,hb,hsw]).symm.trans hr
 rw[show mset s.data.toList p bc f=addS f c by unfold mset;simp[hnm,hb,hsw,hc]]
 simp only[Prod.mk.injEq]at hx
 obtain⟨rfl,rfl,rfl⟩:=hx
 clear hr
 clear hc
 subst hb
 go_enter Tryz.func82,Tryz.ntmps82
 go_wp2
 go_quiet ((go_at_call 99;exact Calls.quiet_of_same (begins_at s _ p _ rfl (by omega))))
 simp only[hnm]
 go_wp2_with (go_at_call 101;refine(endsAt_at M s p _ _ (p+1) _ (by omega) (by exact hm.drewN)).mono ?_;rintro e w' ⟨rfl,rfl⟩)
 have hm1:Mem ((w.drewN nq).setCell ⟨M,10,none⟩ (.bool false)) M s p false f:=hm.drewN.marked
 have Ho1:Hid (Only w ((w.drewN nq).setCell ⟨M,10,none⟩ (.bool false)) M 0 11):=hd ((Only.refl _ _ _ _).drewN.setCell _ (by omega) _)
 generalize (w.drewN nq).setCell ⟨M,10,none⟩ (.bool false)=W at hm1 Ho1 ⊢
 clear c0 c1 c10 f1 f10 hm hnm
 have c0:=hm1.c0
 have c1:=hm1.c1
 have f1:=hm1.f1
 go_quiet ((go_at_call 64;exact Calls.quiet_of_same (hasAt_b s _ _ (p+1) [45] false _ hsw (by omega) rfl (by omega) (by decide) (by decide) (by omega))))
 go_wp2_with fail
 refine(add_any M 2 _ _ (by omega) (by omega) (by exact hm1.set.drewN)).mono ?_
 rintro e w2 ⟨rfl,hs2,ho2⟩
 have hm2:Mem w2 M s p false (addS f c):=hm1.drewN.only ho2 hs2.1 (hs2.2 _ hm1.is.drewN)
 have Ho2:Hid (Only w w2 M 0 11):=hd (Ho1.out.drewN.trans (ho2.mono (by omega) (by omega)))
 have d1:=hm2.c1
 have g1:=hm2.f1
 clear ho2 c0 c1 f1
 go_wp2
 go_ret
 exact⟨rfl,by simpa using hm2.moved1 (q:=p+1),Ho2.out.setCell _ (by omega) _⟩
theorem mstep_fe(M:Nat)(s:ByteArray)(p:Nat)(bc:Bool)(c e0 p1:Nat)(b1:Bool)(w:World)(hm:Mem w M s p bc f)(hs:s.size<=60)(hp:p<s.size)(hc:ch s.data.toList p=c)
  (hnm:nmB s.data.toList p=false)(hb:bc=false)(hsw:sw s.data.toList (p+1) [45]=true)(he2:endB s.data.toList (p+2)=true)(hr:mstep s.data.toList p bc=(e0,p1,b1)):
  Calls Tryz.prog 82 #[.pointer (some ⟨M,0,none⟩),.int .u8 c] w fun e w'=>e= .returned (.int .i64 e0)/\Mem w' M s p1 b1 (mset s.data.toList p bc f)/\Only w w' M 0 11:=by
 have c0:=hm.c0
 have c1:=hm.c1
 have c10:=hm.c10
 have f1:=hm.f1
 have f10:=hm.f10
 have w1':=wrapI ((p:Int)+1) (by omega) (by omega)
 have w2':=wrapI ((p:Int)+2) (by omega) (by omega)
 have hc256:=ch_lt s.data.toList p
 rw[hc]at hc256
 have hx:=(show mstep s.data.toList p bc=(0,p+1,false) by unfold mstep;simp[hnm,hb,hsw,he2]).symm.trans hr
 rw[show mset s.data.toList p bc f=addS f c by unfold mset;simp[hnm,hb,hsw,he2,hc]]
 simp only[Prod.mk.injEq]at hx
 obtain⟨rfl,rfl,rfl⟩:=hx
 clear hr
 clear hc
 subst hb
 go_enter Tryz.func82,Tryz.ntmps82
 go_wp2
 go_quiet ((go_at_call 99;exact Calls.quiet_of_same (begins_at s _ p _ rfl (by omega))))
 simp only[hnm]
 go_wp2_with (go_at_call 101;refine(endsAt_at M s p _ _ (p+1) _ (by omega) (by exact hm.drewN)).mono ?_;rintro e w' ⟨rfl,rfl⟩)
 have hm1:Mem ((w.drewN nq).setCell ⟨M,10,none⟩ (.bool false)) M s p false f:=hm.drewN.marked
 have Ho1:Hid (Only w ((w.drewN nq).setCell ⟨M,10,none⟩ (.bool false)) M 0 11):=hd ((Only.refl _ _ _ _).drewN.setCell _ (by omega) _)
 generalize (w.drewN nq).setCell ⟨M,10,none⟩ (.bool false)=W at hm1 Ho1 ⊢
 clear c0 c1 c10 f1 f10 hm hnm
 have c0:=hm1.c0
 have c1:=hm1.c1
 have f1:=hm1.f1
 go_quiet (first|(go_at_call 64;exact Calls.quiet_of_same (hasAt_b s _ _ (p+1) [45] true _ hsw (by omega) rfl (by omega) (by decide) (by decide) (by omega)))|(go_at_call 101;exact Calls.quiet_of_same (endsAt_b M s p false _ (p+2) true _ he2 (by omega) (by exact hm1.drewN))))
 go_wp2_with fail
 refine(add_any M 2 _ _ (by omega) (by omega) (by exact hm1.set.drewN)).mono ?_
 rintro e w2 ⟨rfl,hs2,ho2⟩
 have hm2:Mem w2 M s p false (addS f c):=hm1.drewN.only ho2 hs2.1 (hs2.2 _ hm1.is.drewN)
 have Ho2:Hid (Only w w2 M 0 11):=hd (Ho1.out.drewN.trans (ho2.mono (by omega) (by omega)))
 have d1:=hm2.c1
 have g1:=hm2.f1
 clear ho2 c0 c1 f1
 go_wp2
 go_ret
 exact⟨rfl,by simpa using hm2.moved1 (q:=p+1),Ho2.out.setCell _ (by omega) _⟩
theorem mstep_fr(M:Nat)(s:ByteArray)(p:Nat)(bc:Bool)(c e0 p1:Nat)(b1:Bool)(w:World)(hm:Mem w M s p bc f)(hs:s.size<=60)(_hp:p<s.size)(hc:ch s.data.toList p=c)
  (hnm:nmB s.data.toList p=false)(hb:bc=false)(hsw:sw s.data.toList (p+1) [45]=true)(he2:endB s.data.toList (p+2)=false)(hp2:p+2<s.size)(hr:mstep s.data.toList p bc=(e0,p1,b1)):
  Calls Tryz.prog 82 #[.pointer (some ⟨M,0,none⟩),.int .u8 c] w fun e w'=>e= .returned (.int .i64 e0)/\Mem w' M s p1 b1 (mset s.data.toList p bc f)/\Only w w' M 0 11:=by
 have c0:=hm.c0
 have c1:=hm.c1
 have c10:=hm.c10
 have f1:=hm.f1
 have f10:=hm.f10
 have w1':=wrapI ((p:Int)+1) (by omega) (by omega)
 have w2':=wrapI ((p:Int)+2) (by omega) (by omega)
 have hc256:=ch_lt s.data.toList p
 rw[hc]at hc256
 have hx:=(show mstep s.data.toList p bc=((rgE s.data.toList p c).toNat,rgP s.data.toList p c,false)from mstep_rg hnm hc (by simp[hb]) hsw he2 (by simpa using hp2)).symm.trans hr
 rw[mset_rg (f:=f) hnm hc (by simp[hb]) hsw he2]
 simp only[Prod.mk.injEq]at hx
 obtain⟨rfl,rfl,rfl⟩:=hx
 clear hr
 clear hc
 subst hb
 go_enter Tryz.func82,Tryz.ntmps82
 go_wp2
 go_quiet ((go_at_call 99;exact Calls.quiet_of_same (begins_at s _ p _ rfl (by omega))))
 simp only[hnm]
 go_wp2_with (go_at_call 101;refine(endsAt_at M s p _ _ (p+1) _ (by omega) (by exact hm.drewN)).mono ?_;rintro e w' ⟨rfl,rfl⟩)
 have hm1:Mem ((w.drewN nq).setCell ⟨M,10,none⟩ (.bool false)) M s p false f:=hm.drewN.marked
 have Ho1:Hid (Only w ((w.drewN nq).setCell ⟨M,10,none⟩ (.bool false)) M 0 11):=hd ((Only.refl _ _ _ _).drewN.setCell _ (by omega) _)
 generalize (w.drewN nq).setCell ⟨M,10,none⟩ (.bool false)=W at hm1 Ho1 ⊢
 clear c0 c1 c10 f1 f10 hm hnm
 have c0:=hm1.c0
 have c1:=hm1.c1
 have f1:=hm1.f1
 go_quiet (first|(go_at_call 64;exact Calls.quiet_of_same (hasAt_b s _ _ (p+1) [45] true _ hsw (by omega) rfl (by omega) (by decide) (by decide) (by omega)))|(go_at_call 101;exact Calls.quiet_of_same (endsAt_b M s p false _ (p+2) false _ he2 (by omega) (by exact hm1.drewN))))
 go_wp2_with fail
 refine(byteRange_any M s p false _ _ (by exact hm1.drewN) hs hp2 (by omega)).mono ?_
 rintro e w2 ⟨rfl,hm2,ho2⟩
 clear c0 c1 f1
 go_wp2
 go_ret
 rw[rgE_nat]
 exact⟨rfl,hm2,Ho1.out.drewN.trans ho2⟩
end Go.Proofs.YtldiemjlpnachaaGreatDoor
namespace Go.Proofs.YtldiemjlpnachaaGreatDoor
open Go.RowKit
variable {f : Nat → Bool}
theorem mstep_ns(M:Nat)(s:ByteArray)(p:Nat)(bc:Bool)(c e0 p1:Nat)(b1:Bool)(w:World)(hm:Mem w M s p bc f)(hs:s.size<=60)(hp:p<s.size)(hc:ch s.data.toList p=c)
  (hnm:nmB s.data.toList p=false)(hb:bc=true)(h45:c≠45)(hsw:sw s.data.toList (p+1) [45]=false)(hr:mstep s.data.toList p bc=(e0,p1,b1)):
  Calls Tryz.prog 82 #[.pointer (some ⟨M,0,none⟩),.int .u8 c] w fun e w'=>e= .returned (.int .i64 e0)/\Mem w' M s p1 b1 (mset s.data.toList p bc f)/\Only w w' M 0 11:=by
 have c0:=hm.c0
 have c1:=hm.c1
 have c10:=hm.c10
 have f1:=hm.f1
 have f10:=hm.f10
 have w1':=wrapI ((p:Int)+1) (by omega) (by omega)
 have w2':=wrapI ((p:Int)+2) (by omega) (by omega)
 have hc256:=ch_lt s.data.toList p
 rw[hc]at hc256
 have hx:=(show mstep s.data.toList p bc=(0,p+1,false) by unfold mstep;simp[hnm,hb,hc,h45,hsw]).symm.trans hr
 rw[show mset s.data.toList p bc f=addS f c by unfold mset;simp[hnm,hb,hc,h45,hsw]]
 simp only[Prod.mk.injEq]at hx
 obtain⟨rfl,rfl,rfl⟩:=hx
 clear hr
 clear hc
 subst hb
 have h45':((c:Int)==45)=false:=by simp;omega
 clear h45
 go_enter Tryz.func82,Tryz.ntmps82
 go_wp2
 go_quiet ((go_at_call 99;exact Calls.quiet_of_same (begins_at s _ p _ rfl (by omega))))
 simp only[hnm]
 go_wp2_with (go_at_call 101;refine(endsAt_at M s p _ _ (p+1) _ (by omega) (by exact hm.drewN)).mono ?_;rintro e w' ⟨rfl,rfl⟩)
 have hm1:Mem ((w.drewN nq).setCell ⟨M,10,none⟩ (.bool false)) M s p false f:=hm.drewN.marked
 have Ho1:Hid (Only w ((w.drewN nq).setCell ⟨M,10,none⟩ (.bool false)) M 0 11):=hd ((Only.refl _ _ _ _).drewN.setCell _ (by omega) _)
 generalize (w.drewN nq).setCell ⟨M,10,none⟩ (.bool false)=W at hm1 Ho1 ⊢
 clear c0 c1 c10 f1 f10 hm hnm
 have c0:=hm1.c0
 have c1:=hm1.c1
 have f1:=hm1.f1
 go_quiet ((go_at_call 64;exact Calls.quiet_of_same (hasAt_b s _ _ (p+1) [45] false _ hsw (by omega) rfl (by omega) (by decide) (by decide) (by omega))))
 go_wp2_with fail
 refine(add_any M 2 _ _ (by omega) (by omega) (by exact hm1.set.drewN)).mono ?_
 rintro e w2 ⟨rfl,hs2,ho2⟩
 have hm2:Mem w2 M s p false (addS f c):=hm1.drewN.only ho2 hs2.1 (hs2.2 _ hm1.is.drewN)
 have Ho2:Hid (Only w w2 M 0 11):=hd (Ho1.out.drewN.trans (ho2.mono (by omega) (by omega)))
 have d1:=hm2.c1
 have g1:=hm2.f1
 clear ho2 c0 c1 f1
 go_wp2
 go_ret
 exact⟨rfl,by simpa using hm2.moved1 (q:=p+1),Ho2.out.setCell _ (by omega) _⟩
theorem mstep_ne(M:Nat)(s:ByteArray)(p:Nat)(bc:Bool)(c e0 p1:Nat)(b1:Bool)(w:World)(hm:Mem w M s p bc f)(hs:s.size<=60)(hp:p<s.size)(hc:ch s.data.toList p=c)
  (hnm:nmB s.data.toList p=false)(hb:bc=true)(h45:c≠45)(hsw:sw s.data.toList (p+1) [45]=true)(he2:endB s.data.toList (p+2)=true)(hr:mstep s.data.toList p bc=(e0,p1,b1)):
  Calls Tryz.prog 82 #[.pointer (some ⟨M,0,none⟩),.int .u8 c] w fun e w'=>e= .returned (.int .i64 e0)/\Mem w' M s p1 b1 (mset s.data.toList p bc f)/\Only w w' M 0 11:=by
 have c0:=hm.c0
 have c1:=hm.c1
 have c10:=hm.c10
 have f1:=hm.f1
 have f10:=hm.f10
 have w1':=wrapI ((p:Int)+1) (by omega) (by omega)
 have w2':=wrapI ((p:Int)+2) (by omega) (by omega)
 have hc256:=ch_lt s.data.toList p
 rw[hc]at hc256
 have hx:=(show mstep s.data.toList p bc=(0,p+1,false) by unfold mstep;simp[hnm,hb,hc,h45,hsw,he2]).symm.trans hr
 rw[show mset s.data.toList p bc f=addS f c by unfold mset;simp[hnm,hb,hc,h45,hsw,he2]]
 simp only[Prod.mk.injEq]at hx
 obtain⟨rfl,rfl,rfl⟩:=hx
 clear hr
 clear hc
 subst hb
 have h45':((c:Int)==45)=false:=by simp;omega
 clear h45
 go_enter Tryz.func82,Tryz.ntmps82
 go_wp2
 go_quiet ((go_at_call 99;exact Calls.quiet_of_same (begins_at s _ p _ rfl (by omega))))
 simp only[hnm]
 go_wp2_with (go_at_call 101;refine(endsAt_at M s p _ _ (p+1) _ (by omega) (by exact hm.drewN)).mono ?_;rintro e w' ⟨rfl,rfl⟩)
 have hm1:Mem ((w.drewN nq).setCell ⟨M,10,none⟩ (.bool false)) M s p false f:=hm.drewN.marked
 have Ho1:Hid (Only w ((w.drewN nq).setCell ⟨M,10,none⟩ (.bool false)) M 0 11):=hd ((Only.refl _ _ _ _).drewN.setCell _ (by omega) _)
 generalize (w.drewN nq).setCell ⟨M,10,none⟩ (.bool false)=W at hm1 Ho1 ⊢
 clear c0 c1 c10 f1 f10 hm hnm
 have c0:=hm1.c0
 have c1:=hm1.c1
 have f1:=hm1.f1
 go_quiet (first|(go_at_call 64;exact Calls.quiet_of_same (hasAt_b s _ _ (p+1) [45] true _ hsw (by omega) rfl (by omega) (by decide) (by decide) (by omega)))|(go_at_call 101;exact Calls.quiet_of_same (endsAt_b M s p false _ (p+2) true _ he2 (by omega) (by exact hm1.drewN))))
 go_wp2_with fail
 refine(add_any M 2 _ _ (by omega) (by omega) (by exact hm1.set.drewN)).mono ?_
 rintro e w2 ⟨rfl,hs2,ho2⟩
 have hm2:Mem w2 M s p false (addS f c):=hm1.drewN.only ho2 hs2.1 (hs2.2 _ hm1.is.drewN)
 have Ho2:Hid (Only w w2 M 0 11):=hd (Ho1.out.drewN.trans (ho2.mono (by omega) (by omega)))
 have d1:=hm2.c1
 have g1:=hm2.f1
 clear ho2 c0 c1 f1
 go_wp2
 go_ret
 exact⟨rfl,by simpa using hm2.moved1 (q:=p+1),Ho2.out.setCell _ (by omega) _⟩
theorem mstep_nr(M:Nat)(s:ByteArray)(p:Nat)(bc:Bool)(c e0 p1:Nat)(b1:Bool)(w:World)(hm:Mem w M s p bc f)(hs:s.size<=60)(_hp:p<s.size)(hc:ch s.data.toList p=c)
  (hnm:nmB s.data.toList p=false)(hb:bc=true)(h45:c≠45)(hsw:sw s.data.toList (p+1) [45]=true)(he2:endB s.data.toList (p+2)=false)(hp2:p+2<s.size)(hr:mstep s.data.toList p bc=(e0,p1,b1)):
  Calls Tryz.prog 82 #[.pointer (some ⟨M,0,none⟩),.int .u8 c] w fun e w'=>e= .returned (.int .i64 e0)/\Mem w' M s p1 b1 (mset s.data.toList p bc f)/\Only w w' M 0 11:=by
 have c0:=hm.c0
 have c1:=hm.c1
 have c10:=hm.c10
 have f1:=hm.f1
 have f10:=hm.f10
 have w1':=wrapI ((p:Int)+1) (by omega) (by omega)
 have w2':=wrapI ((p:Int)+2) (by omega) (by omega)
 have hc256:=ch_lt s.data.toList p
 rw[hc]at hc256
 have hx:=(show mstep s.data.toList p bc=((rgE s.data.toList p c).toNat,rgP s.data.toList p c,false)from mstep_rg hnm hc (by simp[hb,hc,h45]) hsw he2 (by simpa using hp2)).symm.trans hr
 rw[mset_rg (f:=f) hnm hc (by simp[hb,hc,h45]) hsw he2]
 simp only[Prod.mk.injEq]at hx
 obtain⟨rfl,rfl,rfl⟩:=hx
 clear hr
 clear hc
 subst hb
 have h45':((c:Int)==45)=false:=by simp;omega
 clear h45
 go_enter Tryz.func82,Tryz.ntmps82
 go_wp2
 go_quiet ((go_at_call 99;exact Calls.quiet_of_same (begins_at s _ p _ rfl (by omega))))
 simp only[hnm]
 go_wp2_with (go_at_call 101;refine(endsAt_at M s p _ _ (p+1) _ (by omega) (by exact hm.drewN)).mono ?_;rintro e w' ⟨rfl,rfl⟩)
 have hm1:Mem ((w.drewN nq).setCell ⟨M,10,none⟩ (.bool false)) M s p false f:=hm.drewN.marked
 have Ho1:Hid (Only w ((w.drewN nq).setCell ⟨M,10,none⟩ (.bool false)) M 0 11):=hd ((Only.refl _ _ _ _).drewN.setCell _ (by omega) _)
 generalize (w.drewN nq).setCell ⟨M,10,none⟩ (.bool false)=W at hm1 Ho1 ⊢
 clear c0 c1 c10 f1 f10 hm hnm
 have c0:=hm1.c0
 have c1:=hm1.c1
 have f1:=hm1.f1
 go_quiet (first|(go_at_call 64;exact Calls.quiet_of_same (hasAt_b s _ _ (p+1) [45] true _ hsw (by omega) rfl (by omega) (by decide) (by decide) (by omega)))|(go_at_call 101;exact Calls.quiet_of_same (endsAt_b M s p false _ (p+2) false _ he2 (by omega) (by exact hm1.drewN))))
 go_wp2_with fail
 refine(byteRange_any M s p false _ _ (by exact hm1.drewN) hs hp2 (by omega)).mono ?_
 rintro e w2 ⟨rfl,hm2,ho2⟩
 clear c0 c1 f1
 go_wp2
 go_ret
 rw[rgE_nat]
 exact⟨rfl,hm2,Ho1.out.drewN.trans ho2⟩
end Go.Proofs.YtldiemjlpnachaaGreatDoor
namespace Go.Proofs.YtldiemjlpnachaaGreatDoor
open Go.RowKit
variable {f : Nat → Bool}
theorem mstep_es(M:Nat)(s:ByteArray)(p:Nat)(bc:Bool)(c e0 p1:Nat)(b1:Bool)(w:World)(hm:Mem w M s p bc f)(hs:s.size<=60)(hp:p<s.size)(hc:ch s.data.toList p=c)
  (hnm:nmB s.data.toList p=false)(hb:bc=true)(h45:c=45)(he:endB s.data.toList (p+1)=true)(hsw:sw s.data.toList (p+1) [45]=false)(hr:mstep s.data.toList p bc=(e0,p1,b1)):
  Calls Tryz.prog 82 #[.pointer (some ⟨M,0,none⟩),.int .u8 c] w fun e w'=>e= .returned (.int .i64 e0)/\Mem w' M s p1 b1 (mset s.data.toList p bc f)/\Only w w' M 0 11:=by
 have c0:=hm.c0
 have c1:=hm.c1
 have c10:=hm.c10
 have f1:=hm.f1
 have f10:=hm.f10
 have w1':=wrapI ((p:Int)+1) (by omega) (by omega)
 have w2':=wrapI ((p:Int)+2) (by omega) (by omega)
 have hc256:=ch_lt s.data.toList p
 rw[hc]at hc256
 have hx:=(show mstep s.data.toList p bc=(0,p+1,false) by unfold mstep;simp[hnm,hb,hc,h45,he,hsw]).symm.trans hr
 rw[show mset s.data.toList p bc f=addS f c by unfold mset;simp[hnm,hb,hc,h45,he,hsw]]
 simp only[Prod.mk.injEq]at hx
 obtain⟨rfl,rfl,rfl⟩:=hx
 clear hr
 clear hc
 subst hb h45
 go_enter Tryz.func82,Tryz.ntmps82
 go_wp2
 go_quiet ((go_at_call 99;exact Calls.quiet_of_same (begins_at s _ p _ rfl (by omega))))
 simp only[hnm]
 go_wp2_with (go_at_call 101;refine(endsAt_at M s p _ _ (p+1) _ (by omega) (by exact hm.drewN)).mono ?_;rintro e w' ⟨rfl,rfl⟩)
 have hm1:Mem ((w.drewN nq).setCell ⟨M,10,none⟩ (.bool false)) M s p false f:=hm.drewN.marked
 have Ho1:Hid (Only w ((w.drewN nq).setCell ⟨M,10,none⟩ (.bool false)) M 0 11):=hd ((Only.refl _ _ _ _).drewN.setCell _ (by omega) _)
 generalize (w.drewN nq).setCell ⟨M,10,none⟩ (.bool false)=W at hm1 Ho1 ⊢
 clear c0 c1 c10 f1 f10 hm hnm
 have c0:=hm1.c0
 have c1:=hm1.c1
 have f1:=hm1.f1
 go_quiet ((go_at_call 64;exact Calls.quiet_of_same (hasAt_b s _ _ (p+1) [45] false _ hsw (by omega) rfl (by omega) (by decide) (by decide) (by omega))))
 go_wp2_with fail
 refine(add_any M 2 _ _ (by omega) (by omega) (by exact hm1.set.drewN)).mono ?_
 rintro e w2 ⟨rfl,hs2,ho2⟩
 have hm2:Mem w2 M s p false (addS f 45):=hm1.drewN.only ho2 hs2.1 (hs2.2 _ hm1.is.drewN)
 have Ho2:Hid (Only w w2 M 0 11):=hd (Ho1.out.drewN.trans (ho2.mono (by omega) (by omega)))
 have d1:=hm2.c1
 have g1:=hm2.f1
 clear ho2 c0 c1 f1
 go_wp2
 go_ret
 exact⟨rfl,by simpa using hm2.moved1 (q:=p+1),Ho2.out.setCell _ (by omega) _⟩
theorem mstep_ee(M:Nat)(s:ByteArray)(p:Nat)(bc:Bool)(c e0 p1:Nat)(b1:Bool)(w:World)(hm:Mem w M s p bc f)(hs:s.size<=60)(hp:p<s.size)(hc:ch s.data.toList p=c)
  (hnm:nmB s.data.toList p=false)(hb:bc=true)(h45:c=45)(he:endB s.data.toList (p+1)=true)(hsw:sw s.data.toList (p+1) [45]=true)(he2:endB s.data.toList (p+2)=true)(hr:mstep s.data.toList p bc=(e0,p1,b1)):
  Calls Tryz.prog 82 #[.pointer (some ⟨M,0,none⟩),.int .u8 c] w fun e w'=>e= .returned (.int .i64 e0)/\Mem w' M s p1 b1 (mset s.data.toList p bc f)/\Only w w' M 0 11:=by
 have c0:=hm.c0
 have c1:=hm.c1
 have c10:=hm.c10
 have f1:=hm.f1
 have f10:=hm.f10
 have w1':=wrapI ((p:Int)+1) (by omega) (by omega)
 have w2':=wrapI ((p:Int)+2) (by omega) (by omega)
 have hc256:=ch_lt s.data.toList p
 rw[hc]at hc256
 have hx:=(show mstep s.data.toList p bc=(0,p+1,false) by unfold mstep;simp[hnm,hb,hc,h45,he,hsw,he2]).symm.trans hr
 rw[show mset s.data.toList p bc f=addS f c by unfold mset;simp[hnm,hb,hc,h45,he,hsw,he2]]
 simp only[Prod.mk.injEq]at hx
 obtain⟨rfl,rfl,rfl⟩:=hx
 clear hr
 clear hc
 subst hb h45
 go_enter Tryz.func82,Tryz.ntmps82
 go_wp2
 go_quiet ((go_at_call 99;exact Calls.quiet_of_same (begins_at s _ p _ rfl (by omega))))
 simp only[hnm]
 go_wp2_with (go_at_call 101;refine(endsAt_at M s p _ _ (p+1) _ (by omega) (by exact hm.drewN)).mono ?_;rintro e w' ⟨rfl,rfl⟩)
 have hm1:Mem ((w.drewN nq).setCell ⟨M,10,none⟩ (.bool false)) M s p false f:=hm.drewN.marked
 have Ho1:Hid (Only w ((w.drewN nq).setCell ⟨M,10,none⟩ (.bool false)) M 0 11):=hd ((Only.refl _ _ _ _).drewN.setCell _ (by omega) _)
 generalize (w.drewN nq).setCell ⟨M,10,none⟩ (.bool false)=W at hm1 Ho1 ⊢
 clear c0 c1 c10 f1 f10 hm hnm
 have c0:=hm1.c0
 have c1:=hm1.c1
 have f1:=hm1.f1
 go_quiet (first|(go_at_call 64;exact Calls.quiet_of_same (hasAt_b s _ _ (p+1) [45] true _ hsw (by omega) rfl (by omega) (by decide) (by decide) (by omega)))|(go_at_call 101;exact Calls.quiet_of_same (endsAt_b M s p false _ (p+2) true _ he2 (by omega) (by exact hm1.drewN))))
 go_wp2_with fail
 refine(add_any M 2 _ _ (by omega) (by omega) (by exact hm1.set.drewN)).mono ?_
 rintro e w2 ⟨rfl,hs2,ho2⟩
 have hm2:Mem w2 M s p false (addS f 45):=hm1.drewN.only ho2 hs2.1 (hs2.2 _ hm1.is.drewN)
 have Ho2:Hid (Only w w2 M 0 11):=hd (Ho1.out.drewN.trans (ho2.mono (by omega) (by omega)))
 have d1:=hm2.c1
 have g1:=hm2.f1
 clear ho2 c0 c1 f1
 go_wp2
 go_ret
 exact⟨rfl,by simpa using hm2.moved1 (q:=p+1),Ho2.out.setCell _ (by omega) _⟩
theorem mstep_er(M:Nat)(s:ByteArray)(p:Nat)(bc:Bool)(c e0 p1:Nat)(b1:Bool)(w:World)(hm:Mem w M s p bc f)(hs:s.size<=60)(_hp:p<s.size)(hc:ch s.data.toList p=c)
  (hnm:nmB s.data.toList p=false)(hb:bc=true)(h45:c=45)(he:endB s.data.toList (p+1)=true)(hsw:sw s.data.toList (p+1) [45]=true)(he2:endB s.data.toList (p+2)=false)(hp2:p+2<s.size)(hr:mstep s.data.toList p bc=(e0,p1,b1)):
  Calls Tryz.prog 82 #[.pointer (some ⟨M,0,none⟩),.int .u8 c] w fun e w'=>e= .returned (.int .i64 e0)/\Mem w' M s p1 b1 (mset s.data.toList p bc f)/\Only w w' M 0 11:=by
 have c0:=hm.c0
 have c1:=hm.c1
 have c10:=hm.c10
 have f1:=hm.f1
 have f10:=hm.f10
 have w1':=wrapI ((p:Int)+1) (by omega) (by omega)
 have w2':=wrapI ((p:Int)+2) (by omega) (by omega)
 have hc256:=ch_lt s.data.toList p
 rw[hc]at hc256
 have hx:=(show mstep s.data.toList p bc=((rgE s.data.toList p c).toNat,rgP s.data.toList p c,false)from mstep_rg hnm hc (by simp[hb,hc,h45,he]) hsw he2 (by simpa using hp2)).symm.trans hr
 rw[mset_rg (f:=f) hnm hc (by simp[hb,hc,h45,he]) hsw he2]
 simp only[Prod.mk.injEq]at hx
 obtain⟨rfl,rfl,rfl⟩:=hx
 clear hr
 clear hc
 subst hb h45
 go_enter Tryz.func82,Tryz.ntmps82
 go_wp2
 go_quiet ((go_at_call 99;exact Calls.quiet_of_same (begins_at s _ p _ rfl (by omega))))
 simp only[hnm]
 go_wp2_with (go_at_call 101;refine(endsAt_at M s p _ _ (p+1) _ (by omega) (by exact hm.drewN)).mono ?_;rintro e w' ⟨rfl,rfl⟩)
 have hm1:Mem ((w.drewN nq).setCell ⟨M,10,none⟩ (.bool false)) M s p false f:=hm.drewN.marked
 have Ho1:Hid (Only w ((w.drewN nq).setCell ⟨M,10,none⟩ (.bool false)) M 0 11):=hd ((Only.refl _ _ _ _).drewN.setCell _ (by omega) _)
 generalize (w.drewN nq).setCell ⟨M,10,none⟩ (.bool false)=W at hm1 Ho1 ⊢
 clear c0 c1 c10 f1 f10 hm hnm
 have c0:=hm1.c0
 have c1:=hm1.c1
 have f1:=hm1.f1
 go_quiet (first|(go_at_call 64;exact Calls.quiet_of_same (hasAt_b s _ _ (p+1) [45] true _ hsw (by omega) rfl (by omega) (by decide) (by decide) (by omega)))|(go_at_call 101;exact Calls.quiet_of_same (endsAt_b M s p false _ (p+2) false _ he2 (by omega) (by exact hm1.drewN))))
 go_wp2_with fail
 refine(byteRange_any M s p false _ _ (by exact hm1.drewN) hs hp2 (by omega)).mono ?_
 rintro e w2 ⟨rfl,hm2,ho2⟩
 clear c0 c1 f1
 go_wp2
 go_ret
 rw[rgE_nat]
 exact⟨rfl,hm2,Ho1.out.drewN.trans ho2⟩
theorem endB_lt{l:List UInt8}{q:Nat}(h:endB l q=false):q<l.length:=by
 unfold endB at h
 simp at h
 omega
theorem mstep_any(M:Nat)(s:ByteArray)(p:Nat)(bc:Bool)(c e0 p1:Nat)(b1:Bool)(w:World)(hm:Mem w M s p bc f)(hn:NamesIn w)(hs:s.size<=60)(hp:p<s.size)(hc:ch s.data.toList p=c)
  (hr:mstep s.data.toList p bc=(e0,p1,b1)):
  Calls Tryz.prog 82 #[.pointer (some ⟨M,0,none⟩),.int .u8 c] w fun e w'=>e= .returned (.int .i64 e0)/\Mem w' M s p1 b1 (mset s.data.toList p bc f)/\Only w w' M 0 11:=by
 cases hnm:nmB s.data.toList p
 ·have fin:∀h6:(sw s.data.toList (p+1) [45]=true->endB s.data.toList (p+2)=false->p+2<s.size),(bc=true->c=45->endB s.data.toList (p+1)=true)->Calls Tryz.prog 82 #[.pointer (some ⟨M,0,none⟩),.int .u8 c] w fun e w'=>e= .returned (.int .i64 e0)/\Mem w' M s p1 b1 (mset s.data.toList p bc f)/\Only w w' M 0 11:=by
   intro h6 h3
   cases hb:bc
   ·rw[hb]at hm hr
    cases hsw:sw s.data.toList (p+1) [45]
    ·exact mstep_fs M s p false c e0 p1 b1 w hm hs hp hc hnm rfl hsw hr
    ·cases he2:endB s.data.toList (p+2)
     ·exact mstep_fr M s p false c e0 p1 b1 w hm hs hp hc hnm rfl hsw he2 (h6 hsw he2) hr
     ·exact mstep_fe M s p false c e0 p1 b1 w hm hs hp hc hnm rfl hsw he2 hr
   ·rw[hb]at hm hr
    by_cases h45:c=45
    ·have he:=h3 hb h45
     cases hsw:sw s.data.toList (p+1) [45]
     ·exact mstep_es M s p true c e0 p1 b1 w hm hs hp hc hnm rfl h45 he hsw hr
     ·cases he2:endB s.data.toList (p+2)
      ·exact mstep_er M s p true c e0 p1 b1 w hm hs hp hc hnm rfl h45 he hsw he2 (h6 hsw he2) hr
      ·exact mstep_ee M s p true c e0 p1 b1 w hm hs hp hc hnm rfl h45 he hsw he2 hr
    ·cases hsw:sw s.data.toList (p+1) [45]
     ·exact mstep_ns M s p true c e0 p1 b1 w hm hs hp hc hnm rfl h45 hsw hr
     ·cases he2:endB s.data.toList (p+2)
      ·exact mstep_nr M s p true c e0 p1 b1 w hm hs hp hc hnm rfl h45 hsw he2 (h6 hsw he2) hr
      ·exact mstep_ne M s p true c e0 p1 b1 w hm hs hp hc hnm rfl h45 hsw he2 hr
  have h6:sw s.data.toList (p+1) [45]=true->endB s.data.toList (p+2)=false->p+2<s.size:=fun _ h=>by simpa using endB_lt h
  by_cases hx:bc=true/\c=45/\endB s.data.toList (p+1)=false
  ·exact mstep_b M s p bc c e0 p1 b1 w hm hs hp hc hnm hx.1 hx.2.1 hx.2.2 hr
  ·refine fin h6 (fun a b=>?_)
   cases he:endB s.data.toList (p+1)
   ·exact absurd ⟨a,b,he⟩ hx
   ·rfl
 ·exact mstep_a M s p bc c e0 p1 b1 w hm hn hs hp hnm hr
end Go.Proofs.YtldiemjlpnachaaGreatDoor

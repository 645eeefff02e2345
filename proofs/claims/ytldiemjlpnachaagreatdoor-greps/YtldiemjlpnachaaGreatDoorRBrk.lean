import Derived.Test.YtldiemjlpnachaaGreatDoorRMem
import Derived.Deep.WholeRow
set_option maxHeartbeats 3200000
set_option maxRecDepth 100000
namespace Go.Proofs.YtldiemjlpnachaaGreatDoor
open Go.RowKit
def ClsH(H:Fins):Prop:=∃c,H 1=some c/\∀i,i<12->c[i]?=clsArr[i]?
theorem ClsH.isIn{H:Fins}{w:World}(h:ClsH H)(hf:RFin w H):ClsIn w:=by
 obtain⟨c,hc,he⟩:=h
 intro i hi
 obtain⟨t,fr,ht⟩:=hf _ c hc
 rw[cell_of_row w _ i c _ _ ht]
 exact he i hi
theorem ClsH.mono{H H':Fins}(h:ClsH H)(hH:∀g arr,H g=some arr->H' g=some arr):ClsH H':=by
 obtain⟨c,hc,he⟩:=h
 exact⟨c,hH _ _ hc,he⟩
def memS(l:List UInt8)(p:Nat)(F:Nat->Bool):Nat->Bool:=if nmB l p=true then clsF F (clsN l p clsNames)else if spB l (p+1)=false then addS F (ch l p)else addR F (ch l p) (ch l (p+2))
theorem member_any{a w:World}{R P B:Nat}{s:ByteArray}{H:Fins}{F:Nat->Bool}{u vo:Value}{τ:RSt}(h:Bk a w R P B F s H u vo τ)(h0:τ.err=0)(hc:ClsH H)(hs:s.size<=60)(p:Nat)(i:Int)(hi:i=p)(hp:p<s.size)(e0 p0:Nat)(bc:Bool)(hm:memT s.data.toList p=(e0,p0,bc)):
  Calls Tryz.prog 78 #[.pointer (some ⟨R,0,none⟩),.pointer (some ⟨B,0,none⟩),.int .i64 i] w fun r w'=>r= .returned (.int .i64 p0)/\∃G,Bk a w' R P B G s H u vo (errT τ e0 p0)/\(e0=0->∀c,c<256->G c=memS s.data.toList p F c):=by
 subst hi
 unfold memS
 cases hn:nmB s.data.toList p
 ·rw[if_neg (by simp)]
  unfold memT at hm
  rw[if_neg (by simp[hn])]at hm
  cases hsp:spB s.data.toList (p+1)
  ·rw[if_pos hsp]at hm
   simp only[Prod.mk.injEq]at hm
   obtain⟨rfl,rfl,_⟩:=hm
   rw[if_pos rfl]
   exact(member_one h hs p hp hn hsp).mono fun r w' hh=>⟨hh.1,_,hh.2,fun _ _ _=>rfl⟩
  ·rw[if_neg (by simp[hsp])]at hm
   cases hb:(nmB s.data.toList (p+2)||decide (ch s.data.toList (p+2)<ch s.data.toList p))
   ·rw[if_neg (by simp[hb])]at hm
    simp only[Prod.mk.injEq]at hm
    obtain⟨rfl,rfl,_⟩:=hm
    rw[if_neg (by simp)]
    exact(member_range h hs p hp hn hsp hb).mono fun r w' hh=>⟨hh.1,_,hh.2,fun _ _ _=>rfl⟩
   ·rw[if_pos hb]at hm
    simp only[Prod.mk.injEq]at hm
    obtain⟨rfl,rfl,_⟩:=hm
    exact(member_bad h h0 hs p hp hn hsp hb).mono fun r w' hh=>⟨hh.1,_,hh.2,fun e=>absurd e (by omega)⟩
 ·rw[if_pos rfl]
  exact member_class h h0 (hc.isIn h.rg.fin) hs p hp hn e0 p0 bc hm
theorem endB_sp(l:List UInt8)(p:Nat):spB l p=(decide (p+1<l.length)&&(ch l p==45)&&!endB l (p+1)):=by
 unfold spB endB
 rcases Nat.lt_or_ge (p+1) l.length with h|h
 ·have h':¬l.length<=p+1:=by omega
  cases he:(ch l (p+1)==93)<;>simp[h,h',bne,he]
 ·have h':¬p+1<l.length:=by omega
  simp[h']
theorem mstep_mem{l:List UInt8}{p e0 p0:Nat}{bc b0:Bool}(hbc:bc=true->spB l p=false)(hm:memT l p=(e0,p0,b0)):
  (e0=0/\mstep l p bc=(0,p0,b0)/\(b0=true->spB l p0=false))\/(e0≠0/\p0=p/\(mstep l p bc).1=e0/\(mstep l p bc).2.1=p)\/(e0=6/\mstep l p bc=(0,p0,true)/\spB l p0=true):=by
 unfold memT at hm
 unfold mstep
 by_cases hn:nmB l p=true
 ·rw[if_pos hn]at hm ⊢
  cases hc:clsGo l p clsNames with
  |none=>
   rw[hc]at hm
   simp only[Prod.mk.injEq]at hm
   obtain⟨rfl,rfl,_⟩:=hm
   exact .inr (.inl ⟨by omega,rfl,rfl,rfl⟩)
  |some k=>
   rw[hc]at hm
   simp only at hm ⊢
   by_cases hsp:spB l (p+k)=true
   ·rw[if_pos hsp]at hm
    simp only[Prod.mk.injEq]at hm
    obtain⟨rfl,rfl,_⟩:=hm
    exact .inr (.inr ⟨rfl,rfl,hsp⟩)
   ·rw[if_neg hsp]at hm
    simp only[Prod.mk.injEq]at hm
    obtain⟨rfl,rfl,rfl⟩:=hm
    exact .inl ⟨rfl,rfl,fun _=>by simpa using hsp⟩
 ·rw[if_neg hn]at hm ⊢
  have h1:¬(bc&&(ch l p==45)&&!endB l (p+1))=true:=by
   intro h
   simp only[Bool.and_eq_true]at h
   obtain⟨⟨hb,h45⟩,he⟩:=h
   have:=hbc hb
   rw[endB_sp]at this
   have hlt:p+1<l.length:=by unfold endB at he;simp at he;omega
   simp[hlt,h45]at this
   simp[this]at he
  rw[if_neg h1]
  have hsw:(sw l (p+1) [45]&&!endB l (p+2))=spB l (p+1):=by
   rw[endB_sp,sw1]
   rcases Nat.lt_or_ge (p+2) l.length with h|h
   ·have h':p+1<l.length:=by omega
    simp[h,h']
   ·have h':¬p+1+1<l.length:=by omega
    have he:endB l (p+2)=true:=by unfold endB;simp;omega
    simp[h',he]
  rw[hsw]
  cases hsp:spB l (p+1)
  ·rw[if_pos hsp]at hm
   simp only[Prod.mk.injEq]at hm
   obtain⟨rfl,rfl,rfl⟩:=hm
   exact .inl ⟨rfl,by simp,by simp⟩
  ·rw[if_neg (by simp[hsp])]at hm
   have hlt:p+2<l.length:=by unfold spB at hsp;simp at hsp;omega
   have hor:(decide (l.length<=p+2)||decide (ch l (p+2)<ch l p)||nmB l (p+2))=(nmB l (p+2)||decide (ch l (p+2)<ch l p)):=by
    have:¬l.length<=p+2:=by omega
    simp[this,Bool.or_comm]
   rw[hor]
   by_cases hb:(nmB l (p+2)||decide (ch l (p+2)<ch l p))=true
   ·rw[if_pos hb]at hm
    simp only[Prod.mk.injEq]at hm
    obtain⟨rfl,rfl,rfl⟩:=hm
    exact .inr (.inl ⟨by omega,rfl,by simp[hb],by simp[hb]⟩)
   ·rw[if_neg hb]at hm
    simp only[Prod.mk.injEq]at hm
    obtain⟨rfl,rfl,rfl⟩:=hm
    exact .inl ⟨rfl,by simp[hb],by simp⟩
theorem memT_bd{l:List UInt8}{p e0 p0:Nat}{b0:Bool}(hp:p<l.length)(hm:memT l p=(e0,p0,b0)):p<=p0/\p0<=l.length/\e0<=6/\(e0=0->p<p0):=by
 rcases mstep_mem (bc:=false) (by simp) hm with⟨rfl,h,_⟩|⟨he,rfl,h1,_⟩|⟨rfl,h,_⟩
 ·have:=mstep_bd hp h;omega
 ·rcases hms:mstep l p0 false with⟨a,b,c⟩
  have:=mstep_bd hp hms
  rw[hms]at h1
  simp at h1
  omega
 ·have:=mstep_bd hp h;omega
theorem brkGo_mem {l : List UInt8} {start first f p e0 p0 : Nat} {bc b0 : Bool} (hp : p < l.length) (hf : l.length < p + f) (hc : ((ch l p == 93) && decide (first < p)) = false) (hbc : bc = true → spB l p = false) (hm : memT l p = (e0, p0, b0)) :
  (e0 = 0 → brkGo l start first f p bc = brkGo l start first (f - 1) p0 b0 ∧ (b0 = true → spB l p0 = false)) ∧ (e0 ≠ 0 → brkGo l start first f p bc = (e0, p0)) := by
 obtain ⟨g, rfl⟩ : ∃ g, f = g + 1 := ⟨f - 1, by omega⟩
 have hbd := memT_bd hp hm
 rcases mstep_mem hbc hm with ⟨rfl, h, h2⟩ | ⟨he, rfl, h1, h2⟩ | ⟨rfl, h, h2⟩
 ·exact ⟨fun _ => ⟨brkGo_more hp hc h, h2⟩, fun h => absurd rfl h⟩
 ·rcases hms : mstep l p0 bc with ⟨x, y, z⟩
  rw [hms] at h1 h2
  simp only at h1 h2
  subst h1 h2
  exact ⟨fun h => absurd h he, fun _ => brkGo_err hp hc hms he⟩
 ·refine ⟨fun h => absurd h (by omega), fun _ => ?_⟩
  have hx : p0 + 1 < l.length ∧ ch l p0 = 45 ∧ ch l (p0 + 1) ≠ 93 := by
   unfold spB at h2
   simp at h2
   exact ⟨h2.1.1, h2.1.2, h2.2⟩
  obtain ⟨k, rfl⟩ : ∃ k, g = k + 1 := ⟨g - 1, by omega⟩
  rw [brkGo_more hp hc h]
  refine brkGo_err (by omega) (by simp [hx.2.1]) (?_ : mstep l p0 true = (6, p0, true)) (by omega)
  unfold mstep
  have hn : nmB l p0 = false := by unfold nmB; simp [hx.2.1]
  rw [if_neg (by simp [hn]), if_pos]
  have : endB l (p0 + 1) = false := by unfold endB; simp [hx.2.2]; omega
  simp [this, hx.2.1]
theorem mset_mem{l:List UInt8}{p p0:Nat}{bc b0:Bool}{F:Nat->Bool}(hbc:bc=true->spB l p=false)(hm:memT l p=(0,p0,b0)):mset l p bc F=memS l p F:=by
 unfold memT at hm
 unfold mset memS
 by_cases hn:nmB l p=true
 ·rw[if_pos hn,if_pos hn]
 ·rw[if_neg hn]at hm
  rw[if_neg hn,if_neg hn]
  have h1:¬(bc&&(ch l p==45)&&!endB l (p+1))=true:=by
   intro h
   simp only[Bool.and_eq_true]at h
   obtain⟨⟨hb,h45⟩,he⟩:=h
   have:=hbc hb
   rw[endB_sp]at this
   have hlt:p+1<l.length:=by unfold endB at he;simp at he;omega
   simp[hlt,h45]at this
   simp[this]at he
  rw[if_neg h1]
  have hsw:(sw l (p+1) [45]&&!endB l (p+2))=spB l (p+1):=by
   rw[endB_sp,sw1]
   rcases Nat.lt_or_ge (p+2) l.length with h|h
   ·have h':p+1<l.length:=by omega
    simp[h,h']
   ·have h':¬p+1+1<l.length:=by omega
    have he:endB l (p+2)=true:=by unfold endB;simp;omega
    simp[h',he]
  rw[hsw]
  cases hsp:spB l (p+1)
  ·simp
  ·rw[if_neg (by simp[hsp])]at hm
   simp only[if_true,Bool.true_eq_false,if_false]
   unfold rgF
   by_cases hb:(nmB l (p+2)||decide (ch l (p+2)<ch l p))=true
   ·rw[if_pos hb]at hm
    simp at hm
   ·rw[if_neg (by rw[Bool.or_comm];exact hb)]
theorem brkS_mem {l : List UInt8} {first g p p0 : Nat} {bc b0 : Bool} {F : Nat → Bool} (hp : p < l.length) (hc : ((ch l p == 93) && decide (first < p)) = false) (hbc : bc = true → spB l p = false) (hm : memT l p = (0, p0, b0)) : brkS l first (g + 1) p bc F = brkS l first g p0 b0 (memS l p F) := by
 rcases mstep_mem hbc hm with ⟨_, h, _⟩ | ⟨he, _⟩ | ⟨h, _⟩
 ·rw [brkS_more hp hc h, mset_mem hbc hm]
 ·exact absurd rfl he
 ·cases h
def HG(w:World)(H H':Fins):Prop:=(∀g arr,H g=some arr->H' g=some arr)/\∀g,H' g≠none->H g≠none\/w.heap.size<=g
theorem HG.refl(w:World)(H:Fins):HG w H H:=⟨fun _ _ h=>h,fun _ h=> .inl h⟩
theorem HG.trans{w w':World}{H H' H'':Fins}(h:HG w H H')(k:HG w' H' H'')(hs:w.heap.size<=w'.heap.size):HG w H H'':=
 ⟨fun g arr hg=>k.1 g arr (h.1 g arr hg),fun g hg=>by rcases k.2 g hg with e|e;exact h.2 g e;exact .inr (by omega)⟩
theorem RItemOk.mono{H H':Fins}(hH:∀g arr,H g=some arr->H' g=some arr):∀ {d b:Nat} {it:It},RItemOk H d b it->RItemOk H' d b it
 |0,_,_,h=>h.elim
 |d+1,b,it,⟨arr,h1,h2,h3,h4,h⟩=>by
  refine⟨arr,hH _ _ h1,h2,h3,h4,?_⟩
  rcases h with h|⟨e,ha,ao,rn,rc,its,hs,⟨r1,r2,r3⟩,hz⟩|⟨e,ha,q,qi,m,n,k1,k2,k3,b1,b2,b3,b4,hq,hz⟩
  ·exact .inl h
  ·refine .inr (.inl ⟨e,ha,ao,rn,rc,its,hs,⟨r1,r2,?_⟩,hz⟩)
   rcases r3 with r3|⟨g,a2,hg,hh,hi⟩
   ·exact .inl r3
   ·exact .inr ⟨g,a2,hg,hH _ _ hh,fun i hi'=>by obtain⟨bb,hb,ho⟩:=hi i hi';exact⟨bb,hb,RItemOk.mono hH ho⟩⟩
  ·exact .inr (.inr ⟨e,ha,q,qi,m,n,k1,k2,k3,b1,b2,b3,b4,RItemOk.mono hH hq,hz⟩)
def ItPost(w w':World)(R P:Nat)(s:ByteArray)(H:Fins)(vo:Value)(τ':RSt)(b:Nat)(it:It):Prop:=
 ∃H' vo',Rg w' R P s H' vo' τ'/\Rkp w w' R P vo vo'/\HG w H H'/\∃d,RItemOk H' d b it
theorem Rg.new{w:World}{R P:Nat}{s:ByteArray}{H:Fins}{vo:Value}{τ:RSt}(h:Rg w R P s H vo τ):w.heap.size≠R/\w.heap.size≠P/\vo.ownBlock≠some w.heap.size/\H w.heap.size=none:=by
 refine⟨fun e=>?_,fun e=>?_,fun e=>?_,?_⟩
 ·have:=h.ltR;omega
 ·have:=h.ltP;omega
 ·have:=owns_lt h.own e;omega
 ·cases hh:H w.heap.size with
  |none=>rfl
  |some arr=>have:=h.fin.lt hh;omega
theorem leaf_post{w w':World}{R P:Nat}{s:ByteArray}{H:Fins}{vo:Value}{τ':RSt}{b:Nat}{arr:Array Value}{is:ByteArray}{k:Int}{tr:Tr}(h:Rg w' R P s H vo τ')(hk:Rkp w w' R P vo vo)(hb:w'.heap[b]?=some (.cells arr 102 (0,0)))(h1:arr.size=262)(h2:arr[0]?=some (.string is))(h3:isKind k is)(h4:LeafTr arr k tr)
  (hn:H b=none)(hR:b≠R)(hP:b≠P)(ho:vo.ownBlock≠some b)(hw:w.heap.size<=b):ItPost w w' R P s H vo τ' b ⟨k,1,tr⟩:=by
 refine⟨_,vo,h.finish b arr true hb hn hR hP ho,hk,⟨fun g a hg=>?_,fun g hg=>?_⟩,1,arr,by simp,h1,by simp,by simp,.inl ⟨is,h2,h3,rfl,h4⟩⟩
 ·by_cases e:g=b
  ·subst e;rw[hn]at hg;cases hg
  ·simp[e];exact hg
 ·by_cases e:g=b
  ·subst e;exact .inr hw
  ·simp[e]at hg;exact .inl hg
theorem errT_ne(τ:RSt){e:Nat}(p:Nat)(h:e≠0):errT τ e p= {τ with err:=e,pl:=p}:=if_neg h
def brkPl(l:List UInt8)(e q:Nat):Nat:=if e=0 then q else l.length
theorem Bk.done{a w:World}{R P B:Nat}{s:ByteArray}{H:Fins}{F:Nat->Bool}{vo:Value}{τ:RSt}(h:Bk a w R P B F s H vo vo τ):ItPost a w R P s H vo τ B (itOne F):=by
 obtain⟨arr,h1,h2,h3,h4⟩:=h.it
 exact leaf_post h.rg h.kp h1 h2 h3 (.inl ⟨rfl,rfl⟩) (.inl ⟨rfl,F,rfl,h4⟩) h.nH h.nR h.nP h.no h.nw
theorem bIt_new(w:World):BIt (w.alloc (.cells (itC ⟨#[98,121,116,101]⟩ 0 none 0 0) 102)) w.heap.size noS:=
 ⟨_,heap_alloc_last _ _,itC_size _ _ _ _ _,itC_0 _ _ _ _ _,fun c hc=>itC_set _ _ _ _ _ c hc⟩
theorem Rg.bk{w:World}{R P:Nat}{s:ByteArray}{H:Fins}{vo:Value}{τ:RSt}(h:Rg w R P s H vo τ):Bk w (w.alloc (.cells (itC ⟨#[98,121,116,101]⟩ 0 none 0 0) 102)) R P w.heap.size noS s H vo vo τ:=
 ⟨h.alloc _,bIt_new w,(Rkp.refl _ _ _ _).alloc _,Nat.le_refl _,h.new.1,h.new.2.1,h.new.2.2.1,h.new.2.2.2⟩
end Go.Proofs.YtldiemjlpnachaaGreatDoor
namespace Go.Proofs.YtldiemjlpnachaaGreatDoor
open Go.RowKit
def notS(F:Nat->Bool)(n:Nat):Nat->Bool:=fun x=>if x<n then !(F x)else F x
theorem notS_0(F:Nat->Bool)(c:Nat):notS F 0 c=F c:=by simp[notS]
theorem notS_n(F:Nat->Bool)(n:Nat):notS F n n=F n:=by simp[notS]
theorem notS_s(F:Nat->Bool)(n c:Nat):putS (notS F n) n (!(F n)) c=notS F (n+1) c:=by
 unfold putS notS
 by_cases e:c=n
 ·subst e;simp
 ·have:(c<n)=(c<n+1):=by rw[eq_iff_iff];omega
  simp[e,this]
theorem notS_e(F:Nat->Bool)(n c:Nat)(h:c<n):notS F n c=invS F c:=by simp[notS,invS,h]
def BSt(w wr:World)(R P B:Nat)(F:Nat->Bool)(s:ByteArray)(H:Fins)(vo:Value)(τ:RSt)(st first e0 q0 f p:Nat)(bc fst:Bool):Prop:=
 Bk w wr R P B F s H vo vo τ/\brkGo s.data.toList st first f p bc=(e0,q0)/\(bc=true->spB s.data.toList p=false)/\(fst=true↔p=first)/\brkS s.data.toList first f p bc F=brkS s.data.toList first 61 first false noS
theorem cl_eq{s:ByteArray}{p first:Nat}(hp:p<s.size){fst:Bool}(hf:fst=true↔p=first)(hfp:first<=p):((ch s.data.toList p==93)&&decide (first<p))=(((s[p].toNat:Int)==93)&&!fst):=by
 rw[<-ch_get s p hp]
 have:decide (first<p)=!fst:=by
  cases fst
  ·have:p≠first:=fun e=>by have:=hf.2 e;cases this
   simp;omega
  ·have:=hf.1 rfl
   simp;omega
 rw[this]
 congr 1
 rw[Bool.eq_iff_iff];simp;omega
theorem rbracket_no{w:World}{R P:Nat}{s:ByteArray}{H:Fins}{vo:Value}{τ:RSt}(h:Rg w R P s H vo τ)(h0:τ.err=0)(hc:ClsH H)(hs:s.size<=60)(st:Nat)(hst:st<s.size)(e0 q0:Nat)(hq:brk s.data.toList st=(e0,q0))(hcar:sw s.data.toList (st+1) [94]=false):
  Calls Tryz.prog 54 #[.pointer (some ⟨R,0,none⟩),.int .i64 st] w fun r w'=>r= .returned (.tuple #[.pointer (some ⟨w.heap.size,0,none⟩),.int .i64 (brkPl s.data.toList e0 q0)])/\∃G,ItPost w w' R P s H vo (errT τ e0 q0) w.heap.size (itOne G)/\(e0=0->G=brkSet s.data.toList st):=by
 have c0:=h.c0
 have Hl:=hd (len_data s)
 have Hbk:=hd h.bk
 have Hcar:=hd hcar
 have Hq2:Hid (brkGo s.data.toList st (st+1) 61 (st+1) false=(e0,q0)):=by
  have e:brkFirst s.data.toList st=st+1:=by unfold brkFirst;simp[hcar]
  have:=hq
  unfold brk at this
  rw[e]at this
  exact hd this
 clear hcar h hq
 go_enter Tryz.func54,Tryz.ntmps54
 go_wp2_with (first
  |refine wp_b0 ⟨#[98,121,116,101]⟩ rfl rfl ?_
  |refine wp_bx (.tmp 17) ⟨#[98,121,116,101]⟩ 0 none 0 0 rfl rfl rfl ?_
  |(go_at_call 31;refine(starts_b s _ _ (st+1) [94] _ _ (by omega) rfl Hcar.out (by omega) (by decide) (by decide) (by omega)).mono ?_;rintro e w' ⟨rfl,rfl⟩))
 generalize hW:w.alloc (.cells (itC ⟨#[98,121,116,101]⟩ 0 none 0 0) 102)=W at*
 have Hw:=hd hW
 clear hW c0
 obtain⟨B,hB⟩:∃B,w.heap.size=B:=⟨_,rfl⟩
 have HB:=hd hB
 rw[hB]at Hbk
 simp only[hB]
 clear hB
 go_loopg [1,10,11] 61 (fun f i fb _ wr=>∃(p:Nat) (bc fst:Bool) (F:Nat->Bool),i= .int .i64 p/\fb= .bool fst/\st+1<=p/\p<=s.size+2/\s.size<p+f/\Hid (BSt w wr R P B F s H vo τ st (st+1) e0 q0 f p bc fst))
 case atStart=>exact⟨st+1,false,true,noS,by go_num,rfl,by omega,by omega,by omega,hd ⟨Hbk.out,Hq2.out,by simp,by simp,rfl⟩⟩
 case round=>
  obtain⟨p,bc,fst,F,rfl,rfl,hfp,hps,hpf,HS⟩:=hrel
  have c0:=HS.out.1.rg.c0
  by_cases hlt:p<s.size
  ·have hp':(p:Int)<s.size:=by omega
   have hp0:(0:Int)<=(p:Int):=by omega
   have hcl:=cl_eq hlt HS.out.2.2.2.1 hfp
   cases hx:(((s[p].toNat:Int)==93)&&!fst)
   ·rw[hx]at hcl
    rcases hmm:memT s.data.toList p with⟨em,pm,bm⟩
    have hbd:=memT_bd (by rw[Hl.out];exact hlt) hmm
    rw[Hl.out]at hbd
    have Hstep:=hd (brkGo_mem (start:=st) (first:=st+1) (f:=_) (by rw[Hl.out];exact hlt) (by rw[Hl.out];exact hpf) hcl HS.out.2.2.1 hmm)
    have Hmem:=hd (fun i hi=>member_any HS.out.1 h0 hc hs p i hi hlt em pm bm hmm)
    have Hfst:Hid (((s[p].toNat:Int)==93)=false\/(((s[p].toNat:Int)==93)=true/\fst=true)):=by
     cases h1:((s[p].toNat:Int)==93)
     ·exact .inl rfl
     ·rw[h1]at hx;simp at hx;exact .inr ⟨rfl,hx⟩
    have HsetS:Hid (em=0->∀g,_):=hd (fun e g=>brkS_mem (F:=F) (first:=st+1) (g:=g) (by rw[Hl.out];exact hlt) hcl HS.out.2.2.1 (by rw[<-e];exact hmm))
    clear hx hcl hmm
    by_cases hem:em=0
    ·subst hem
     have hpm:=hbd.2.2.2 rfl
     have Hb':=hd (fun w2 G (hb2:Bk w w2 R P B G s H vo vo (errT τ 0 pm)) (hG:((0:Nat)=0->∀c,c<256->G c=memS s.data.toList p F c))=>(show Bk w w2 R P B (memS s.data.toList p F) s H vo vo τ from hb2.cg (hG rfl)))
     obtain⟨g,rfl⟩:∃g,gk=g+1:=⟨gk-1,by omega⟩
     have Hnext:Hid (brkGo s.data.toList st (st+1) g pm bm=(e0,q0)/\(bm=true->spB s.data.toList pm=false)):=by
      have:=Hstep.out.1 rfl
      rw[show g+1-1=g by omega]at this
      exact⟨this.1.symm.trans HS.out.2.1,this.2⟩
     have HsetN:=hd ((HsetS.out rfl g).symm.trans HS.out.2.2.2.2)
     clear Hstep HsetS
     rcases Hfst.out with h93|⟨h93,rfl⟩
     all_goals
      go_wp2_with (go_at_call 78;refine(Hmem.out _ rfl).mono ?_;rintro e w2 ⟨rfl,G,hb1,hG⟩;have hb2:=Hb'.out _ _ hb1 hG;have c13:=hb2.rg.ce;rw[h0]at c13)
      go_roundg g
      case measure=>omega
      case rel=>exact⟨pm,bm,false,_,rfl,rfl,by omega,by omega,by omega,hd ⟨hb2,Hnext.out.1,Hnext.out.2,by simp;omega,HsetN.out⟩⟩
    ·have He:Hid ((em,pm)=(e0,q0)):=hd ((Hstep.out.2 hem).symm.trans HS.out.2.1)
     have hen:((em:Int) !=0)=true:=by simp;omega
     have hen2:((em:Int)==0)=false:=by simp;omega
     have Hb':=hd (fun w2 G (hb2:Bk w w2 R P B G s H vo vo (errT τ em pm))=>(show w2.cell? ⟨R,13,none⟩=some (.int .i64 em) by have:=hb2.rg.ce;rw[errT_ne τ pm hem]at this;exact this))
     clear Hstep
     rcases Hfst.out with h93|⟨h93,rfl⟩
     all_goals
      go_wp2_with (go_at_call 78;refine(Hmem.out _ rfl).mono ?_;rintro e w2 ⟨rfl,G,hb2,_⟩;have c13:=Hb'.out _ _ hb2)
      go_ret2
      have he:=He.out
      simp only[Prod.mk.injEq]at he
      obtain⟨rfl,rfl⟩:=he
      rw[HB.out]
      exact⟨by unfold brkPl;rw[if_neg hem,Hl.out];rfl,_,hb2.done,fun e=>absurd e hem⟩
   ·rw[hx]at hcl
    obtain⟨g,rfl⟩:∃g,gk=g+1:=⟨gk-1,by omega⟩
    have Hz:Hid ((0,p+1)=(e0,q0)):=hd (by
     simp only[Bool.and_eq_true,beq_iff_eq,decide_eq_true_eq]at hcl
     exact(brkGo_shut (start:=st) (first:=st+1) (f:=g) (bc:=bc) (by rw[Hl.out];exact hlt) hcl.1 hcl.2).symm.trans HS.out.2.1)
    have Hset:Hid (F=brkS s.data.toList (st+1) 61 (st+1) false noS):=hd (by
     simp only[Bool.and_eq_true,beq_iff_eq,decide_eq_true_eq]at hcl
     exact(brkS_shut (first:=st+1) (n:=g) (bc:=bc) (f:=F) (by rw[Hl.out];exact hlt) hcl.1 hcl.2).symm.trans HS.out.2.2.2.2)
    simp only[Bool.and_eq_true,Bool.not_eq_true']at hx
    obtain⟨h93,rfl⟩:=hx
    clear hcl
    go_wp2
    go_ret2
    have he:=Hz.out
    simp only[Prod.mk.injEq]at he
    obtain⟨rfl,rfl⟩:=he
    rw[HB.out]
    exact⟨by unfold brkPl;rw[if_pos rfl];rfl,_,HS.out.1.done,fun _=>by unfold brkSet brkFirst;rw[if_neg (by simp[Hcar.out]),if_neg (by simp[Hcar.out])];exact Hset.out⟩
  ·have Hz:Hid ((4,st)=(e0,q0)):=hd ((brkGo_out (start:=st) (first:=st+1) (bc:=bc) (by rw[Hl.out];exact hlt)).symm.trans HS.out.2.1)
   have hlt':(s.size:Int)<=(p:Int):=by omega
   go_wp2_with (go_at_call 18;refine(wrong_any HS.out.1.rg 4 st _ rfl h0).mono ?_;rintro e w2 ⟨rfl,hr2,hk2⟩)
   go_ret2
   have he:=Hz.out
   simp only[Prod.mk.injEq]at he
   obtain⟨rfl,rfl⟩:=he
   rw[HB.out]
   exact⟨by unfold brkPl;rw[if_neg (by omega),Hl.out];rfl,_,(HS.out.1.step hr2 hk2).done,fun e=>absurd e (by omega)⟩
theorem rbracket_not{w:World}{R P:Nat}{s:ByteArray}{H:Fins}{vo:Value}{τ:RSt}(h:Rg w R P s H vo τ)(h0:τ.err=0)(hc:ClsH H)(hs:s.size<=60)(st:Nat)(hst:st<s.size)(e0 q0:Nat)(hq:brk s.data.toList st=(e0,q0))(hcar:sw s.data.toList (st+1) [94]=true):
  Calls Tryz.prog 54 #[.pointer (some ⟨R,0,none⟩),.int .i64 st] w fun r w'=>r= .returned (.tuple #[.pointer (some ⟨w.heap.size,0,none⟩),.int .i64 (brkPl s.data.toList e0 q0)])/\∃G,ItPost w w' R P s H vo (errT τ e0 q0) w.heap.size (itOne G)/\(e0=0->G=brkSet s.data.toList st):=by
 have c0:=h.c0
 have Hl:=hd (len_data s)
 have Hbk:=hd h.bk
 have Hcar:=hd hcar
 have Hq2:Hid (brkGo s.data.toList st (st+2) 61 (st+2) false=(e0,q0)):=by
  have e:brkFirst s.data.toList st=st+2:=by unfold brkFirst;simp[hcar]
  have:=hq
  unfold brk at this
  rw[e]at this
  exact hd this
 clear hcar h hq
 go_enter Tryz.func54,Tryz.ntmps54
 go_wp2_with (first
  |refine wp_b0 ⟨#[98,121,116,101]⟩ rfl rfl ?_
  |refine wp_bx (.tmp 17) ⟨#[98,121,116,101]⟩ 0 none 0 0 rfl rfl rfl ?_
  |(go_at_call 31;refine(starts_b s _ _ (st+1) [94] _ _ (by omega) rfl Hcar.out (by omega) (by decide) (by decide) (by omega)).mono ?_;rintro e w' ⟨rfl,rfl⟩))
 generalize hW:w.alloc (.cells (itC ⟨#[98,121,116,101]⟩ 0 none 0 0) 102)=W at*
 have Hw:=hd hW
 clear hW c0
 obtain⟨B,hB⟩:∃B,w.heap.size=B:=⟨_,rfl⟩
 have HB:=hd hB
 rw[hB]at Hbk
 simp only[hB]
 clear hB
 go_loopg [1,10,11] 61 (fun f i fb _ wr=>∃(p:Nat) (bc fst:Bool) (F:Nat->Bool),i= .int .i64 p/\fb= .bool fst/\st+2<=p/\p<=s.size+2/\s.size<p+f/\Hid (BSt w wr R P B F s H vo τ st (st+2) e0 q0 f p bc fst))
 case atStart=>exact⟨st+2,false,true,noS,by go_num,rfl,by omega,by omega,by omega,hd ⟨Hbk.out,Hq2.out,by simp,by simp,rfl⟩⟩
 case round=>
  obtain⟨p,bc,fst,F,rfl,rfl,hfp,hps,hpf,HS⟩:=hrel
  have c0:=HS.out.1.rg.c0
  by_cases hlt:p<s.size
  ·have hp':(p:Int)<s.size:=by omega
   have hp0:(0:Int)<=(p:Int):=by omega
   have hcl:=cl_eq hlt HS.out.2.2.2.1 hfp
   cases hx:(((s[p].toNat:Int)==93)&&!fst)
   ·rw[hx]at hcl
    rcases hmm:memT s.data.toList p with⟨em,pm,bm⟩
    have hbd:=memT_bd (by rw[Hl.out];exact hlt) hmm
    rw[Hl.out]at hbd
    have Hstep:=hd (brkGo_mem (start:=st) (first:=st+2) (f:=_) (by rw[Hl.out];exact hlt) (by rw[Hl.out];exact hpf) hcl HS.out.2.2.1 hmm)
    have Hmem:=hd (fun i hi=>member_any HS.out.1 h0 hc hs p i hi hlt em pm bm hmm)
    have Hfst:Hid (((s[p].toNat:Int)==93)=false\/(((s[p].toNat:Int)==93)=true/\fst=true)):=by
     cases h1:((s[p].toNat:Int)==93)
     ·exact .inl rfl
     ·rw[h1]at hx;simp at hx;exact .inr ⟨rfl,hx⟩
    have HsetS:Hid (em=0->∀g,_):=hd (fun e g=>brkS_mem (F:=F) (first:=st+2) (g:=g) (by rw[Hl.out];exact hlt) hcl HS.out.2.2.1 (by rw[<-e];exact hmm))
    clear hx hcl hmm
    by_cases hem:em=0
    ·subst hem
     have hpm:=hbd.2.2.2 rfl
     have Hb':=hd (fun w2 G (hb2:Bk w w2 R P B G s H vo vo (errT τ 0 pm)) (hG:((0:Nat)=0->∀c,c<256->G c=memS s.data.toList p F c))=>(show Bk w w2 R P B (memS s.data.toList p F) s H vo vo τ from hb2.cg (hG rfl)))
     obtain⟨g,rfl⟩:∃g,gk=g+1:=⟨gk-1,by omega⟩
     have Hnext:Hid (brkGo s.data.toList st (st+2) g pm bm=(e0,q0)/\(bm=true->spB s.data.toList pm=false)):=by
      have:=Hstep.out.1 rfl
      rw[show g+1-1=g by omega]at this
      exact⟨this.1.symm.trans HS.out.2.1,this.2⟩
     have HsetN:=hd ((HsetS.out rfl g).symm.trans HS.out.2.2.2.2)
     clear Hstep HsetS
     rcases Hfst.out with h93|⟨h93,rfl⟩
     all_goals
      go_wp2_with (go_at_call 78;refine(Hmem.out _ rfl).mono ?_;rintro e w2 ⟨rfl,G,hb1,hG⟩;have hb2:=Hb'.out _ _ hb1 hG;have c13:=hb2.rg.ce;rw[h0]at c13)
      go_roundg g
      case measure=>omega
      case rel=>exact⟨pm,bm,false,_,rfl,rfl,by omega,by omega,by omega,hd ⟨hb2,Hnext.out.1,Hnext.out.2,by simp;omega,HsetN.out⟩⟩
    ·have He:Hid ((em,pm)=(e0,q0)):=hd ((Hstep.out.2 hem).symm.trans HS.out.2.1)
     have hen:((em:Int) !=0)=true:=by simp;omega
     have hen2:((em:Int)==0)=false:=by simp;omega
     have Hb':=hd (fun w2 G (hb2:Bk w w2 R P B G s H vo vo (errT τ em pm))=>(show w2.cell? ⟨R,13,none⟩=some (.int .i64 em) by have:=hb2.rg.ce;rw[errT_ne τ pm hem]at this;exact this))
     clear Hstep
     rcases Hfst.out with h93|⟨h93,rfl⟩
     all_goals
      go_wp2_with (go_at_call 78;refine(Hmem.out _ rfl).mono ?_;rintro e w2 ⟨rfl,G,hb2,_⟩;have c13:=Hb'.out _ _ hb2)
      go_ret2
      have he:=He.out
      simp only[Prod.mk.injEq]at he
      obtain⟨rfl,rfl⟩:=he
      rw[HB.out]
      exact⟨by unfold brkPl;rw[if_neg hem,Hl.out];rfl,_,hb2.done,fun e=>absurd e hem⟩
   ·rw[hx]at hcl
    obtain⟨g,rfl⟩:∃g,gk=g+1:=⟨gk-1,by omega⟩
    have Hz:Hid ((0,p+1)=(e0,q0)):=hd (by
     simp only[Bool.and_eq_true,beq_iff_eq,decide_eq_true_eq]at hcl
     exact(brkGo_shut (start:=st) (first:=st+2) (f:=g) (bc:=bc) (by rw[Hl.out];exact hlt) hcl.1 hcl.2).symm.trans HS.out.2.1)
    have Hset:Hid (F=brkS s.data.toList (st+2) 61 (st+2) false noS):=hd (by
     simp only[Bool.and_eq_true,beq_iff_eq,decide_eq_true_eq]at hcl
     exact(brkS_shut (first:=st+2) (n:=g) (bc:=bc) (f:=F) (by rw[Hl.out];exact hlt) hcl.1 hcl.2).symm.trans HS.out.2.2.2.2)
    simp only[Bool.and_eq_true,Bool.not_eq_true']at hx
    obtain⟨h93,rfl⟩:=hx
    clear hcl
    go_wp2_with fail
    clear h93
    go_loopg [12,60] 257 (fun f _ c wx=>∃n:Nat,c= .int .i64 n/\n<=256/\256<n+f/\Hid (Bk w wx R P B (notS F n) s H vo vo τ))
    case atStart=>exact⟨0,rfl,by omega,by omega,hd (HS.out.1.cg (fun c _=>(notS_0 F c).symm))⟩
    case round=>
     obtain⟨n,rfl,hn1,hn2,Hb⟩:=hrel
     by_cases hn:n<256
     ·have hb0:=Hb.out.it.cell n hn
      rw[notS_n]at hb0
      have fz:=Hb.out.it.free
      obtain⟨g2,rfl⟩:∃g2,gk=g2+1:=⟨gk-1,by omega⟩
      go_wp2
      go_region
      all_goals go_wp2
      all_goals go_roundg g2
      case measure=>omega
      case rel=>exact⟨n+1,by go_num,by omega,by omega,hd ((Hb.out.set n hn _).drew.cg (fun c _=>notS_s F n c))⟩
     ·go_wp2
      go_ret2
      have he:=Hz.out
      simp only[Prod.mk.injEq]at he
      obtain⟨rfl,rfl⟩:=he
      rw[HB.out]
      exact⟨by unfold brkPl;rw[if_pos rfl];rfl,_,(Hb.out.cg (G:=invS F) (fun c hc=>notS_e F n c (by omega))).done,fun _=>by unfold brkSet brkFirst;rw[if_pos Hcar.out,if_pos Hcar.out,<-Hset.out]⟩
  ·have Hz:Hid ((4,st)=(e0,q0)):=hd ((brkGo_out (start:=st) (first:=st+2) (bc:=bc) (by rw[Hl.out];exact hlt)).symm.trans HS.out.2.1)
   have hlt':(s.size:Int)<=(p:Int):=by omega
   go_wp2_with (go_at_call 18;refine(wrong_any HS.out.1.rg 4 st _ rfl h0).mono ?_;rintro e w2 ⟨rfl,hr2,hk2⟩)
   go_ret2
   have he:=Hz.out
   simp only[Prod.mk.injEq]at he
   obtain⟨rfl,rfl⟩:=he
   rw[HB.out]
   exact⟨by unfold brkPl;rw[if_neg (by omega),Hl.out];rfl,_,(HS.out.1.step hr2 hk2).done,fun e=>absurd e (by omega)⟩
theorem rbracket_any{w:World}{R P:Nat}{s:ByteArray}{H:Fins}{vo:Value}{τ:RSt}(h:Rg w R P s H vo τ)(h0:τ.err=0)(hc:ClsH H)(hs:s.size<=60)(st:Nat)(i:Int)(hi:i=st)(hst:st<s.size)(e0 q0:Nat)(hq:brk s.data.toList st=(e0,q0)):
  Calls Tryz.prog 54 #[.pointer (some ⟨R,0,none⟩),.int .i64 i] w fun r w'=>r= .returned (.tuple #[.pointer (some ⟨w.heap.size,0,none⟩),.int .i64 (brkPl s.data.toList e0 q0)])/\∃G,ItPost w w' R P s H vo (errT τ e0 q0) w.heap.size (itOne G)/\(e0=0->G=brkSet s.data.toList st):=by
 subst hi
 cases hcar:sw s.data.toList (st+1) [94]
 ·exact rbracket_no h h0 hc hs st hst e0 q0 hq hcar
 ·exact rbracket_not h h0 hc hs st hst e0 q0 hq hcar
end Go.Proofs.YtldiemjlpnachaaGreatDoor

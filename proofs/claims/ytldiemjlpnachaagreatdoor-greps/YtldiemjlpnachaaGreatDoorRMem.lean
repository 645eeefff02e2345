import Derived.Test.YtldiemjlpnachaaGreatDoorRItem
import Derived.Test.YtldiemjlpnachaaGreatDoorMem2
import Derived.Lib.OthersKept
import Derived.Lib.TrimU
import Derived.Deep.RegionHeld3
import Derived.BigQuiet
set_option maxHeartbeats 1600000
namespace Go.Proofs.YtldiemjlpnachaaGreatDoor
open Go.RowKit
def memT(l:List UInt8)(i:Nat):Nat×Nat×Bool:=
 if nmB l i=true then
  match clsGo l i clsNames with
  |some k=>if spB l (i+k)=true then(6,i+k,true)else(0,i+k,true)
  |none=>(5,i,false)
 else if spB l (i+1)=false then(0,i+1,false)
 else if(nmB l (i+2)||decide (ch l (i+2)<ch l i))=true then(6,i,false)else(0,i+3,false)
def BIt(w:World)(B:Nat)(F:Nat->Bool):Prop:=∃arr,w.heap[B]?=some (.cells arr 102 (0,0))/\arr.size=262/\arr[0]?=some (.string ⟨#[98,121,116,101]⟩)/\∀c,c<256->arr[1+c]?=some (.bool (F c))
theorem BIt.same{w w':World}{B:Nat}{F:Nat->Bool}(h:BIt w B F)(he:w'.heap[B]?=w.heap[B]?):BIt w' B F:=by
 obtain⟨arr,h1,h2⟩:=h
 exact⟨arr,he.trans h1,h2⟩
theorem BIt.lt{w:World}{B:Nat}{F:Nat->Bool}(h:BIt w B F):B<w.heap.size:=by
 obtain⟨arr,h1,_⟩:=h
 rcases Nat.lt_or_ge B w.heap.size with hlt|hge
 ·exact hlt
 ·rw[Array.getElem?_eq_none hge]at h1;cases h1
theorem BIt.cell{w:World}{B:Nat}{F:Nat->Bool}(h:BIt w B F)(c:Nat)(hc:c<256):w.cell? ⟨B,1+c,none⟩=some (.bool (F c)):=by
 obtain⟨arr,h1,_,_,h4⟩:=h
 rw[cell_of_row w B (1+c) arr _ _ h1];exact h4 c hc
theorem BIt.cg{w:World}{B:Nat}{F G:Nat->Bool}(h:BIt w B F)(he:∀c,c<256->F c=G c):BIt w B G:=by
 obtain⟨arr,h1,h2,h3,h4⟩:=h
 exact⟨arr,h1,h2,h3,fun c hc=>by rw[<-he c hc];exact h4 c hc⟩
theorem BIt.free{w:World}{B:Nat}{F:Nat->Bool}(h:BIt w B F)(i:Nat):w.frozen? ⟨B,i,none⟩=false:=by
 obtain⟨arr,h1,_⟩:=h
 simp[World.frozen?,h1]
theorem heap_setCell_self{w:World}{B i:Nat}{arr:Array Value}{t:TypeId}{f:Nat×Nat}(h:w.heap[B]?=some (.cells arr t f))(v:Value):(w.setCell ⟨B,i,none⟩ v).heap[B]?=some (.cells (arr.setIfInBounds i v) t f):=by
 have hlt:B<w.heap.size:=by
  rcases Nat.lt_or_ge B w.heap.size with hlt|hge
  ·exact hlt
  ·rw[Array.getElem?_eq_none hge]at h;cases h
 simp only[World.setCell,Array.getElem?_modify,if_true,h,Option.map_some]
 rfl
def putS(F:Nat->Bool)(c:Nat)(b:Bool):Nat->Bool:=fun x=>if x=c then b else F x
theorem BIt.set{w:World}{B:Nat}{F:Nat->Bool}(h:BIt w B F)(c:Nat)(hc:c<256)(b:Bool):BIt (w.setCell ⟨B,1+c,none⟩ (.bool b)) B (putS F c b):=by
 obtain⟨arr,h1,h2,h3,h4⟩:=h
 refine⟨arr.setIfInBounds (1+c) (.bool b),heap_setCell_self h1 _,by simpa using h2,by rw[Array.getElem?_setIfInBounds_ne (by omega)];exact h3,fun d hd=>?_⟩
 by_cases e:d=c
 ·subst e;rw[Array.getElem?_setIfInBounds_self_of_lt (by omega)];simp[putS]
 ·rw[Array.getElem?_setIfInBounds_ne (by omega),h4 d hd];simp[putS,e]
theorem BIt.alloc{w:World}{B:Nat}{F:Nat->Bool}(h:BIt w B F)(o:Obj):BIt (w.alloc o) B F:=h.same (Below.heap_alloc _ _ _ h.lt)
structure Bk(a w:World)(R P B:Nat)(F:Nat->Bool)(s:ByteArray)(H:Fins)(u vo:Value)(τ:RSt):Prop where
 rg:Rg w R P s H vo τ
 it:BIt w B F
 kp:Rkp a w R P u vo
 nw:a.heap.size<=B
 nR:B≠R
 nP:B≠P
 no:vo.ownBlock≠some B
 nH:H B=none
section
variable {a w w' : World} {R P B : Nat} {s : ByteArray} {H : Fins} {F : Nat → Bool} {u vo : Value} {τ : RSt}
theorem Bk.cg{G:Nat->Bool}(h:Bk a w R P B F s H u vo τ)(he:∀c,c<256->F c=G c):Bk a w R P B G s H u vo τ:=
 ⟨h.rg,h.it.cg he,h.kp,h.nw,h.nR,h.nP,h.no,h.nH⟩
theorem Bk.set(h:Bk a w R P B F s H u vo τ)(c:Nat)(hc:c<256)(b:Bool):Bk a (w.setCell ⟨B,1+c,none⟩ (.bool b)) R P B (putS F c b) s H u vo τ:=
 ⟨h.rg.set B _ _ h.nR h.nP h.no h.nH,h.it.set c hc b,h.kp.setNew B _ h.nw _,h.nw,h.nR,h.nP,h.no,h.nH⟩
theorem Bk.alloc(h:Bk a w R P B F s H u vo τ)(o:Obj):Bk a (w.alloc o) R P B F s H u vo τ:=
 ⟨h.rg.alloc o,h.it.alloc o,h.kp.alloc o,h.nw,h.nR,h.nP,h.no,h.nH⟩
theorem Bk.drew(h:Bk a w R P B F s H u vo τ):Bk a w.drew R P B F s H u vo τ:=⟨h.rg.drew,h.it,h.kp.drew,h.nw,h.nR,h.nP,h.no,h.nH⟩
theorem Bk.drewN(h:Bk a w R P B F s H u vo τ)(n:Nat):Bk a (w.drewN n) R P B F s H u vo τ:=⟨h.rg.drewN n,h.it,h.kp.drewN n,h.nw,h.nR,h.nP,h.no,h.nH⟩
theorem Bk.step(h:Bk a w R P B F s H u vo τ){τ':RSt}(hr:Rg w' R P s H vo τ')(hk:Rkp w w' R P vo vo):Bk a w' R P B F s H u vo τ':=
 ⟨hr,h.it.same (hk.block B h.it.lt h.nR h.nP h.no),h.kp.trans hk,h.nw,h.nR,h.nP,h.no,h.nH⟩
end
theorem putS_t(F:Nat->Bool)(c x:Nat):putS F c true x=addS F c x:=by
 unfold putS addS
 by_cases e:x=c
 ·simp[e]
 ·simp[e]
def errT(τ:RSt)(e p:Nat):RSt:=if e=0 then τ else {τ with err:=e,pl:=p}
theorem member_one{a w:World}{R P B:Nat}{s:ByteArray}{H:Fins}{F:Nat->Bool}{u vo:Value}{τ:RSt}(h:Bk a w R P B F s H u vo τ)(hs:s.size<=60)(p:Nat)(hp:p<s.size)(hn:nmB s.data.toList p=false)(hsp:spB s.data.toList (p+1)=false):
  Calls Tryz.prog 78 #[.pointer (some ⟨R,0,none⟩),.pointer (some ⟨B,0,none⟩),.int .i64 p] w fun r w'=>r= .returned (.int .i64 ((p+1:Nat):Int))/\Bk a w' R P B (addS F (ch s.data.toList p)) s H u vo τ:=by
 have c0:=h.rg.c0
 have hlt:=UInt8.toNat_lt s[p]
 have hb0:=h.it.cell s[p].toNat hlt
 have Hch:=hd (ch_get s p hp)
 generalize F s[p].toNat=b0 at hb0
 have f:=h.it.free
 have Hh:=hd h
 have Hn:=hd hn
 have Hsp:=hd hsp
 clear h hn hsp
 have hp':(p:Int)<s.size:=by omega
 go_enter Tryz.func78,Tryz.ntmps78
 go_wp2_with (first
  |(go_at_call 96;refine(named_b s _ p _ _ (by omega) Hn.out (by omega) (by omega)).mono ?_;rintro e w' ⟨rfl,rfl⟩)
  |(go_at_call 97;refine(spans_b s _ (p+1) _ _ (by omega) Hsp.out (by omega)).mono ?_;rintro e w' ⟨rfl,rfl⟩))
 go_region
 all_goals go_wp2
 all_goals go_ret
 all_goals exact⟨rfl,(Hh.out.set _ hlt true).drew.cg (fun c _=>by rw[<-Hch.out];exact putS_t F _ c)⟩
theorem spB_get{s:ByteArray}{n:Nat}(h:spB s.data.toList n=true):n+1<s.size:=by
 unfold spB at h
 rw[len_data]at h
 simp at h
 exact h.1.1
theorem member_bad{a w:World}{R P B:Nat}{s:ByteArray}{H:Fins}{F:Nat->Bool}{u vo:Value}{τ:RSt}(h:Bk a w R P B F s H u vo τ)(h0:τ.err=0)(hs:s.size<=60)(p:Nat)(hp:p<s.size)(hn:nmB s.data.toList p=false)(hsp:spB s.data.toList (p+1)=true)(hb:(nmB s.data.toList (p+2)||decide (ch s.data.toList (p+2)<ch s.data.toList p))=true):
  Calls Tryz.prog 78 #[.pointer (some ⟨R,0,none⟩),.pointer (some ⟨B,0,none⟩),.int .i64 p] w fun r w'=>r= .returned (.int .i64 p)/\Bk a w' R P B F s H u vo {τ with err:=6,pl:=p}:=by
 have c0:=h.rg.c0
 have hp2:=spB_get hsp
 have Hh:=hd h
 have Hn:=hd hn
 have Hsp:=hd hsp
 clear h hn hsp
 have hp':(p:Int)<s.size:=by omega
 have hp2':(p:Int)+2<s.size:=by omega
 have q0:(0:Int)<=(p:Int)+2:=by omega
 have q1:(0:Int)<=(p:Int):=by omega
 have w2:=wrapI ((p:Int)+2) (by omega) (by omega)
 rw[<-ch_get s (p+2) hp2,<-ch_get s p hp]at hb
 cases hn2:nmB s.data.toList (p+2)
 ·rw[hn2]at hb
  have Hn2:=hd hn2
  clear hn2
  have hlt:s[p+2].toNat<s[p].toNat:=by simpa using hb
  have htn:((p:Int)+2).toNat=p+2:=by omega
  have hdl:∀(h:((p:Int)+2).toNat<s.size),decide ((s[((p:Int)+2).toNat]'h).toNat<s[p].toNat)=true:=by
   intro h
   simp only[htn]
   simpa using hlt
  have Hlt:=hd hlt
  clear hb htn hlt
  go_enter Tryz.func78,Tryz.ntmps78
  go_wp2_with (first
   |(go_at_call 96;refine(named_b s _ p _ _ (by omega) Hn.out (by omega) (by omega)).mono ?_;rintro e w' ⟨rfl,rfl⟩)
   |(go_at_call 97;refine(spans_b s _ (p+1) _ _ (by omega) Hsp.out (by omega)).mono ?_;rintro e w' ⟨rfl,rfl⟩))
  go_quiet ((go_at_call 96;exact Calls.quiet_of_same (named_b s _ (p+2) _ _ (by omega) Hn2.out (by omega) (by omega))))
  go_wp2_with (go_at_call 18;refine(wrong_any (Hh.out.rg.drewN nq) 6 p _ rfl h0).mono ?_;rintro e w2 ⟨rfl,hr2,hk2⟩)
  go_ret
  exact⟨rfl,(Hh.out.drewN nq).step hr2 hk2⟩
 ·have Hn2:=hd hn2
  clear hn2 hb
  go_enter Tryz.func78,Tryz.ntmps78
  go_wp2_with (first
   |(go_at_call 96;refine(named_b s _ p _ _ (by omega) Hn.out (by omega) (by omega)).mono ?_;rintro e w' ⟨rfl,rfl⟩)
   |(go_at_call 97;refine(spans_b s _ (p+1) _ _ (by omega) Hsp.out (by omega)).mono ?_;rintro e w' ⟨rfl,rfl⟩))
  go_quiet ((go_at_call 96;exact Calls.quiet_of_same (named_b s _ (p+2) _ _ (by omega) Hn2.out (by omega) (by omega))))
  go_wp2_with (go_at_call 18;refine(wrong_any (Hh.out.rg.drewN nq) 6 p _ rfl h0).mono ?_;rintro e w2 ⟨rfl,hr2,hk2⟩)
  go_ret
  exact⟨rfl,(Hh.out.drewN nq).step hr2 hk2⟩
def addR'(F:Nat->Bool)(a n:Nat):Nat->Bool:=fun x=>F x||(decide (a<=x)&&decide (x<n))
theorem addR'_0(F:Nat->Bool)(a c:Nat):addR' F a a c=F c:=by
 unfold addR'
 by_cases h:a<=c
 ·have:¬c<a:=by omega
  simp[this]
 ·simp[h]
theorem addR'_s(F:Nat->Bool){a n:Nat}(h:a<=n)(c:Nat):putS (addR' F a n) n true c=addR' F a (n+1) c:=by
 unfold putS addR'
 by_cases e:c=n
 ·subst e;simp[h]
 ·have:(c<n)=(c<n+1):=by rw[eq_iff_iff];omega
  simp[e,this]
theorem addR'_e(F:Nat->Bool)(a b c:Nat):addR' F a (b+1) c=addR F a b c:=by
 unfold addR' addR
 have:(c<b+1)=(c<=b):=by rw[eq_iff_iff];omega
 simp[this]
theorem member_range{a w:World}{R P B:Nat}{s:ByteArray}{H:Fins}{F:Nat->Bool}{u vo:Value}{τ:RSt}(h:Bk a w R P B F s H u vo τ)(hs:s.size<=60)(p:Nat)(hp:p<s.size)(hn:nmB s.data.toList p=false)(hsp:spB s.data.toList (p+1)=true)(hb:(nmB s.data.toList (p+2)||decide (ch s.data.toList (p+2)<ch s.data.toList p))=false):
  Calls Tryz.prog 78 #[.pointer (some ⟨R,0,none⟩),.pointer (some ⟨B,0,none⟩),.int .i64 p] w fun r w'=>r= .returned (.int .i64 ((p+3:Nat):Int))/\Bk a w' R P B (addR F (ch s.data.toList p) (ch s.data.toList (p+2))) s H u vo τ:=by
 have c0:=h.rg.c0
 have hp2:=spB_get hsp
 have Hh:=hd h
 have Hn:=hd hn
 have Hsp:=hd hsp
 clear h hn hsp
 have hp':(p:Int)<s.size:=by omega
 have hp2':(p:Int)+2<s.size:=by omega
 have q0:(0:Int)<=(p:Int)+2:=by omega
 have q1:(0:Int)<=(p:Int):=by omega
 have w2:=wrapI ((p:Int)+2) (by omega) (by omega)
 rw[<-ch_get s (p+2) hp2,<-ch_get s p hp]at hb
 simp only[Bool.or_eq_false_iff,decide_eq_false_iff_not]at hb
 have Hn2:=hd hb.1
 have Hlt:=hd hb.2
 have htn:((p:Int)+2).toNat=p+2:=by omega
 have hdl:∀(h:((p:Int)+2).toNat<s.size),decide ((s[((p:Int)+2).toNat]'h).toNat<s[p].toNat)=false:=by
  intro h
  simp only[htn]
  simpa using Hlt.out
 clear hb htn
 have Hch:=hd (ch_get s p hp)
 have Hch2:=hd (ch_get s (p+2) hp2)
 have hx:=UInt8.toNat_lt s[p]
 have hy:=UInt8.toNat_lt s[p+2]
 go_enter Tryz.func78,Tryz.ntmps78
 go_wp2_with (first
  |(go_at_call 96;refine(named_b s _ p _ _ (by omega) Hn.out (by omega) (by omega)).mono ?_;rintro e w' ⟨rfl,rfl⟩)
  |(go_at_call 97;refine(spans_b s _ (p+1) _ _ (by omega) Hsp.out (by omega)).mono ?_;rintro e w' ⟨rfl,rfl⟩))
 go_quiet ((go_at_call 96;exact Calls.quiet_of_same (named_b s _ (p+2) _ _ (by omega) Hn2.out (by omega) (by omega))))
 go_wp2_with fail
 have Hh2:=hd (Hh.out.drewN nq)
 have hsc:=Hlt.out
 clear Hh c0 hdl
 generalize World.drewN _ nq=W at*
 go_loopg [12] 300 (fun k c wr=>∃n:Nat,c= .int .i64 n/\s[p].toNat<=n/\n<=s[p+2].toNat+1/\s[p+2].toNat<n+k/\Hid (Bk a wr R P B (addR' F s[p].toNat n) s H u vo τ))
 case atStart=>exact⟨s[p].toNat,by go_num,by omega,by omega,by omega,hd (Hh2.out.cg (fun c _=>(addR'_0 F _ c).symm))⟩
 case round=>
  obtain⟨n,rfl,hn1,hn2,hnk,Hb⟩:=hrel
  by_cases hlt:n<=s[p+2].toNat
  ·have hb0:=Hb.out.it.cell n (by omega)
   generalize addR' F s[p].toNat n n=b0 at hb0
   have f:=Hb.out.it.free
   have hlt':(n:Int)<=(s[p+2].toNat:Int):=by omega
   obtain⟨g,rfl⟩:∃g,gk=g+1:=⟨gk-1,by omega⟩
   go_wp2
   go_roundg g
   case measure=>omega
   case rel=>exact⟨n+1,by go_num,by omega,by omega,by omega,hd ((Hb.out.set n (by omega) true).cg (fun c _=>addR'_s F hn1 c))⟩
  ·have hlt':¬(n:Int)<=(s[p+2].toNat:Int):=by omega
   go_wp2
   go_ret
   obtain rfl:n=s[p+2].toNat+1:=by omega
   exact⟨rfl,Hb.out.cg (fun c _=>by rw[<-Hch.out,<-Hch2.out];exact addR'_e F _ _ c)⟩
end Go.Proofs.YtldiemjlpnachaaGreatDoor
namespace Go.Proofs.YtldiemjlpnachaaGreatDoor
open Go.RowKit
def nmL:List ByteArray:= [⟨#[97,108,112,104,97]⟩,⟨#[100,105,103,105,116]⟩,⟨#[97,108,110,117,109]⟩,⟨#[117,112,112,101,114]⟩,⟨#[108,111,119,101,114]⟩,⟨#[115,112,97,99,101]⟩]
def bsL:List ByteArray:= [⟨#[97,98,99,100,101,102,103,104,105,106,107,108,109,110,111,112,113,114,115,116,117,118,119,120,121,122,65,66,67,68,69,70,71,72,73,74,75,76,77,78,79,80,81,82,83,84,85,86,87,88,89,90]⟩,⟨#[48,49,50,51,52,53,54,55,56,57]⟩,⟨#[97,98,99,100,101,102,103,104,105,106,107,108,109,110,111,112,113,114,115,116,117,118,119,120,121,122,65,66,67,68,69,70,71,72,73,74,75,76,77,78,79,80,81,82,83,84,85,86,87,88,89,90,48,49,50,51,52,53,54,55,56,57]⟩,⟨#[65,66,67,68,69,70,71,72,73,74,75,76,77,78,79,80,81,82,83,84,85,86,87,88,89,90]⟩,⟨#[97,98,99,100,101,102,103,104,105,106,107,108,109,110,111,112,113,114,115,116,117,118,119,120,121,122]⟩,⟨#[9,10,11,12,13,32]⟩]
def nm(k:Nat):ByteArray:=nmL.getD k ⟨#[]⟩
def bs(k:Nat):ByteArray:=bsL.getD k ⟨#[]⟩
def clsArr:Array Value:= #[.string (nm 0),.string (bs 0),.string (nm 1),.string (bs 1),.string (nm 2),.string (bs 2),.string (nm 3),.string (bs 3),.string (nm 4),.string (bs 4),.string (nm 5),.string (bs 5)]
def ClsIn(w:World):Prop:=∀i,i<12->w.cell? ⟨1,i,none⟩=clsArr[i]?
theorem nm_size(k:Nat)(hk:k<6):(nm k).size=5:=by
 rcases(show k=0\/k=1\/k=2\/k=3\/k=4\/k=5 by omega)with rfl|rfl|rfl|rfl|rfl|rfl<;>rfl
theorem run_ixc(k:Nat)(hk:k<6)(w:World):(Instr.index 191 (.agg #[.string (nm 0),.string (bs 0),.string (nm 1),.string (bs 1),.string (nm 2),.string (bs 2),.string (nm 3),.string (bs 3),.string (nm 4),.string (bs 4),.string (nm 5),.string (bs 5)]) (.int .i64 k)).run Tryz.prog w= .ok (.agg #[.string (nm k),.string (bs k)]) w:=by
 rcases(show k=0\/k=1\/k=2\/k=3\/k=4\/k=5 by omega)with rfl|rfl|rfl|rfl|rfl|rfl<;>kernel_rfl
def rclsN(k:Nat):List UInt8:=clsNames.getD k []
theorem cls_text(k:Nat)(hk:k<6):(((⟨#[91,58]⟩:ByteArray)++nm k)++(⟨#[58,93]⟩:ByteArray)).data.toList=rclsN k:=by
 rcases(show k=0\/k=1\/k=2\/k=3\/k=4\/k=5 by omega)with rfl|rfl|rfl|rfl|rfl|rfl<;>decide+kernel
theorem bs_ascii(k:Nat)(hk:k<6)(i:Nat)(hi:i<(bs k).size):(bs k)[i].toNat<128:=by
 have key:∀l:List UInt8,(l.all fun c=>decide (c.toNat<128))=true->∀i (h:i<l.length),l[i].toNat<128:=by
  intro l h i hi
  have:=List.all_eq_true.1 h l[i] (List.getElem_mem hi)
  simpa using this
 have hall:((bs k).data.toList.all fun c=>decide (c.toNat<128))=true:=by
  rcases(show k=0\/k=1\/k=2\/k=3\/k=4\/k=5 by omega)with rfl|rfl|rfl|rfl|rfl|rfl<;>decide+kernel
 exact key _ hall i (by simpa using hi)
theorem bs_size(k:Nat)(hk:k<6):(bs k).size<=62:=by
 rcases(show k=0\/k=1\/k=2\/k=3\/k=4\/k=5 by omega)with rfl|rfl|rfl|rfl|rfl|rfl<;>decide+kernel
theorem clsGo_at{l:List UInt8}{p k:Nat}(hk:k<6)(hno:∀j,j<k->sw l p (rclsN j)=false)(hy:sw l p (rclsN k)=true):clsGo l p clsNames=some 9:=by
 have h0:0<k->sw l p [91,58,97,108,112,104,97,58,93]=false:=fun h=>hno 0 h
 have h1:1<k->sw l p [91,58,100,105,103,105,116,58,93]=false:=fun h=>hno 1 h
 have h2:2<k->sw l p [91,58,97,108,110,117,109,58,93]=false:=fun h=>hno 2 h
 have h3:3<k->sw l p [91,58,117,112,112,101,114,58,93]=false:=fun h=>hno 3 h
 have h4:4<k->sw l p [91,58,108,111,119,101,114,58,93]=false:=fun h=>hno 4 h
 unfold clsNames
 rcases(show k=0\/k=1\/k=2\/k=3\/k=4\/k=5 by omega)with rfl|rfl|rfl|rfl|rfl|rfl<;>simp[rclsN,clsNames]at hy<;>simp[clsGo,h0,h1,h2,h3,h4,hy]
theorem clsGo_no{l:List UInt8}{p:Nat}(hno:∀j,j<6->sw l p (rclsN j)=false):clsGo l p clsNames=none:=by
 have h0:sw l p [91,58,97,108,112,104,97,58,93]=false:=hno 0 (by omega)
 have h1:sw l p [91,58,100,105,103,105,116,58,93]=false:=hno 1 (by omega)
 have h2:sw l p [91,58,97,108,110,117,109,58,93]=false:=hno 2 (by omega)
 have h3:sw l p [91,58,117,112,112,101,114,58,93]=false:=hno 3 (by omega)
 have h4:sw l p [91,58,108,111,119,101,114,58,93]=false:=hno 4 (by omega)
 have h5:sw l p [91,58,115,112,97,99,101,58,93]=false:=hno 5 (by omega)
 unfold clsNames
 simp[clsGo,h0,h1,h2,h3,h4,h5]
theorem more_no{l:List UInt8}{p k:Nat}(h:∀j,j<k->sw l p (rclsN j)=false)(hk:sw l p (rclsN k)=false):∀j,j<k+1->sw l p (rclsN j)=false:=by
 intro j hj
 by_cases e:j=k
 ·subst e;exact hk
 ·exact h j (by omega)
theorem clsN_at{l:List UInt8}{p k:Nat}(hk:k<6)(hno:∀j,j<k->sw l p (rclsN j)=false)(hy:sw l p (rclsN k)=true):clsN l p clsNames=some (rclsN k):=by
 have h0:0<k->sw l p [91,58,97,108,112,104,97,58,93]=false:=fun h=>hno 0 h
 have h1:1<k->sw l p [91,58,100,105,103,105,116,58,93]=false:=fun h=>hno 1 h
 have h2:2<k->sw l p [91,58,97,108,110,117,109,58,93]=false:=fun h=>hno 2 h
 have h3:3<k->sw l p [91,58,117,112,112,101,114,58,93]=false:=fun h=>hno 3 h
 have h4:4<k->sw l p [91,58,108,111,119,101,114,58,93]=false:=fun h=>hno 4 h
 unfold clsNames
 rcases(show k=0\/k=1\/k=2\/k=3\/k=4\/k=5 by omega)with rfl|rfl|rfl|rfl|rfl|rfl<;>simp[rclsN,clsNames]at hy ⊢ <;>simp[clsN,h0,h1,h2,h3,h4,hy]
def addB(F:Nat->Bool)(l:List UInt8)(n:Nat):Nat->Bool:=fun x=>F x||(List.range n).any (fun i=>ch l i==x)
theorem addB_0(F:Nat->Bool)(l:List UInt8)(c:Nat):addB F l 0 c=F c:=by simp[addB]
theorem addB_s(F:Nat->Bool)(l:List UInt8)(n c:Nat):putS (addB F l n) (ch l n) true c=addB F l (n+1) c:=by
 unfold putS addB
 rw[List.range_succ,List.any_append]
 by_cases e:c=ch l n
 ·simp[e]
 ·have:(ch l n==c)=false:=by simp;omega
  simp[e,this]
theorem clsAdd_or(t:List UInt8)(F:Nat->Bool)(c:Nat):clsAdd t F c=(F c||clsAdd t noS c):=by
 unfold clsAdd
 split
 ·simp[addR,noS,Bool.or_assoc]
 ·split
  ·simp[addR,noS]
  ·split
   ·simp[addR,noS,Bool.or_assoc]
   ·split
    ·simp[addR,noS]
    ·split
     ·simp[addR,noS]
     ·split
      ·simp[addR,addS,noS,Bool.or_assoc]
      ·simp[noS]
theorem addB_cls(F:Nat->Bool)(k:Nat)(hk:k<6):∀c,c<256->addB F (bs k).data.toList (bs k).size c=clsAdd (rclsN k) F c:=by
 intro c hc
 rw[clsAdd_or]
 unfold addB
 congr 1
 have key:∀c,c<256->(List.range (bs k).size).any (fun i=>ch (bs k).data.toList i==c)=clsAdd (rclsN k) noS c:=by
  rcases(show k=0\/k=1\/k=2\/k=3\/k=4\/k=5 by omega)with rfl|rfl|rfl|rfl|rfl|rfl<;>decide+kernel
 exact key c hc
theorem Bk.iterAt{a w:World}{R P B:Nat}{s:ByteArray}{H:Fins}{F:Nat->Bool}{u vo:Value}{τ:RSt}(h:Bk a w R P B F s H u vo τ){k:Nat}{t:ByteArray}{pos:Nat}(hk:w.heap[k]?=some (.stringIter t pos))(ha:a.heap.size<=k)(pos':Nat):Bk a (w.iterAt k t pos') R P B F s H u vo τ:=by
 have ne:∀j arr ty f,w.heap[j]?=some (.cells arr ty f)->j≠k:=fun j arr ty f hj e=>by subst e;rw[hk]at hj;cases hj
 have cne:∀j i v,w.cell? ⟨j,i,none⟩=some v->j≠k:=fun j i v hj e=>by subst e;simp[World.cell?,hk]at hj
 have nR:=cne R 0 _ h.rg.c0
 have nP:=cne P 1 _ h.rg.pg
 have o:∀j,j≠k->(w.iterAt k t pos').heap[j]?=w.heap[j]?:=fun j hj=>Lib.iterAt_other _ _ _ _ _ hj
 refine⟨h.rg.same (o R nR) (o P nP) (fun j hj=>o j ?_) (fun g arr hg=>o g ?_),h.it.same (o B ?_),⟨h.kp.os,h.kp.tape,h.kp.output,by simp[World.iterAt];exact h.kp.size,fun j hj h1 h2 h3=>(o j (by omega)).trans (h.kp.block j hj h1 h2 h3),h.kp.own⟩,h.nw,h.nR,h.nP,h.no,h.nH⟩
 ·rcases h.rg.own.2 with⟨rfl,_⟩|⟨g,cap,cur,rfl,_,hg,_⟩
  ·cases hj
  ·simp only[Value.ownBlock,Option.some.injEq]at hj
   subst hj
   exact ne _ _ _ _ hg
 ·obtain⟨ty,fr,hty⟩:=h.rg.fin g arr hg
  exact ne _ _ _ _ hty
 ·obtain⟨arr,ha,_⟩:=h.it
  exact ne _ _ _ _ ha
theorem member_class{a w:World}{R P B:Nat}{s:ByteArray}{H:Fins}{F:Nat->Bool}{u vo:Value}{τ:RSt}(h:Bk a w R P B F s H u vo τ)(h0:τ.err=0)(hc:ClsIn w)(hs:s.size<=60)(p:Nat)(hp:p<s.size)(hn:nmB s.data.toList p=true)(e0 p0:Nat)(bc:Bool)(hm:memT s.data.toList p=(e0,p0,bc)):
  Calls Tryz.prog 78 #[.pointer (some ⟨R,0,none⟩),.pointer (some ⟨B,0,none⟩),.int .i64 p] w fun r w'=>r= .returned (.int .i64 p0)/\∃G,Bk a w' R P B G s H u vo (errT τ e0 p0)/\(e0=0->∀c,c<256->G c=clsF F (clsN s.data.toList p clsNames) c):=by
 have c0:=h.rg.c0
 have Hh:=hd h
 have Hn:=hd hn
 have Hm:Hid ((match clsGo s.data.toList p clsNames with|some k=>if spB s.data.toList (p+k)=true then(6,p+k,true)else(0,p+k,true)|none=>(5,p,false))=(e0,p0,bc)):=by
  unfold memT at hm;rw[if_pos hn]at hm;exact hm
 clear h hn hm
 have d0:=hc 0 (by omega)
 have d1:=hc 1 (by omega)
 have d2:=hc 2 (by omega)
 have d3:=hc 3 (by omega)
 have d4:=hc 4 (by omega)
 have d5:=hc 5 (by omega)
 have d6:=hc 6 (by omega)
 have d7:=hc 7 (by omega)
 have d8:=hc 8 (by omega)
 have d9:=hc 9 (by omega)
 have d10:=hc 10 (by omega)
 have d11:=hc 11 (by omega)
 simp only[clsArr]at d0 d1 d2 d3 d4 d5 d6 d7 d8 d9 d10 d11
 simp at d0 d1 d2 d3 d4 d5 d6 d7 d8 d9 d10 d11
 clear hc
 go_enter Tryz.func78,Tryz.ntmps78
 go_wp2_with (go_at_call 96;refine(named_b s _ p _ _ (by omega) Hn.out (by omega) (by omega)).mono ?_;rintro e w' ⟨rfl,rfl⟩)
 clear d0 d1 d2 d3 d4 d5 d6 d7 d8 d9 d10 d11 c0
 go_loopg [2,9,10,11,21] 7 (fun f q _ _ _ i wr=>∃k:Nat,q= .int .i64 p/\i= .int .i64 k/\k<=6/\6<k+f/\Hid (Bk a wr R P B F s H u vo τ)/\Hid (∀j,j<k->sw s.data.toList p (rclsN j)=false))
 case atStart=>exact⟨0,rfl,rfl,by omega,by omega,Hh,hd fun j hj=>by omega⟩
 case round=>
  obtain⟨k,rfl,rfl,hk6,hkf,Hb,Hno⟩:=hrel
  by_cases hk:k<6
  ·have hix:=run_ixc k hk
   have hnm:=nm_size k hk
   have Htx:=hd (cls_text k hk)
   have hbz:=bs_size k hk
   have hsz1:((⟨#[91,58]⟩:ByteArray)++nm k).size=7:=by rw[ByteArray.size_append,hnm];rfl
   have hsz2:(((⟨#[91,58]⟩:ByteArray)++nm k)++(⟨#[58,93]⟩:ByteArray)).size=9:=by rw[ByteArray.size_append,hsz1];rfl
   cases hsw:sw s.data.toList p (rclsN k)
   ·have Hsw:=hd hsw
    clear hsw
    obtain⟨g,rfl⟩:∃g,gk=g+1:=⟨gk-1,by omega⟩
    go_wp2_with (go_at_call 31;refine(starts_b s _ _ p (rclsN k) _ _ (by omega) Htx.out Hsw.out (by omega) (by omega) (by omega) (by omega)).mono ?_;rintro e w' ⟨rfl,rfl⟩)
    go_roundg g
    case measure=>omega
    case rel=>exact⟨k+1,rfl,by go_num,by omega,by omega,hd (Hb.out.alloc _),hd (more_no Hno.out Hsw.out)⟩
   ·have Hsw:=hd hsw
    have Hcl:=hd (clsGo_at hk Hno.out hsw)
    have HcN:=hd (clsN_at hk Hno.out hsw)
    have Hadd:=hd (addB_cls F k hk)
    clear hsw Hno
    go_wp2_with (go_at_call 31;refine(starts_b s _ _ p (rclsN k) _ _ (by omega) Htx.out Hsw.out (by omega) (by omega) (by omega) (by omega)).mono ?_;rintro e w' ⟨rfl,rfl⟩)
    have Has:=hd (bs_ascii k hk)
    have ha:a.heap.size<=wr.heap.size:=Hb.out.kp.size
    have hit0:((wr.alloc (.cells #[.string (nm k),.string (bs k)] 190)).iter (bs k) 0).heap[wr.heap.size+1]?=some (.stringIter (bs k) 0):=by
     have:=World.iter_heap (wr.alloc (.cells #[.string (nm k),.string (bs k)] 190)) (bs k) 0
     simpa using this
    have hc1:((wr.alloc (.cells #[.string (nm k),.string (bs k)] 190)).iter (bs k) 0).cell? ⟨wr.heap.size,1,none⟩=some (.string (bs k)):=by simp[World.iter]
    have Hb2:Hid (Bk a ((wr.alloc (.cells #[.string (nm k),.string (bs k)] 190)).iter (bs k) 0) R P B F s H u vo τ):=hd ((Hb.out.alloc _).alloc _)
    have HC:Hid (B≠wr.heap.size):=hd (Nat.ne_of_lt Hb.out.it.lt)
    generalize hW:(wr.alloc (.cells #[.string (nm k),.string (bs k)] 190)).iter (bs k) 0=W at*
    have Hw:=hd hW
    clear Hb hW hix
    generalize bs k=t at*
    obtain⟨C,hC⟩:∃C,wr.heap.size=C:=⟨_,rfl⟩
    have Hcc:=hd hC
    rw[hC]at ha hit0 hc1 HC
    simp only[hC]
    clear hC
    go_loopg [11] 100 (fun f _ wx=>∃pos:Nat,wx.heap[C+1]?=some (.stringIter t pos)/\wx.cell? ⟨C,1,none⟩=some (.string t)/\Hid (Bk a wx R P B (addB F t.data.toList pos) s H u vo τ)/\pos<=t.size/\t.size<pos+f)
    case atStart=>exact⟨0,hit0,hc1,hd (Hb2.out.cg (fun c _=>(addB_0 F _ c).symm)),by omega,by omega⟩
    case round=>
     obtain⟨pos,hit,hcc,Hbx,hpt,hptf⟩:=hrel
     by_cases hlt:pos<t.size
     ·have hasc:=Has.out pos hlt
      have hnx:∀ty,(Instr.next (.pointer (some ⟨C+1,0,none⟩)) true ty).run Tryz.prog _=_:=fun ty=>Lib.run_next_any_at _ (C+1) t pos ty hit hlt
      rw[decode_ascii t pos hlt hasc]at hnx
      have hit2:=Lib.iterAt_heap _ (C+1) t pos (pos+1) hit
      have hcc2:=(World.cell?_of_block (a:=⟨C,1,none⟩) (Lib.iterAt_other _ (C+1) C t (pos+1) (by omega))).trans hcc
      have Hb3:=hd (Hbx.out.iterAt hit (by omega) (pos+1))
      clear hit hcc Hbx
      generalize World.iterAt _ (C+1) t (pos+1)=W2 at*
      have hb0:=Hb3.out.it.cell t[pos].toNat (by omega)
      generalize addB F t.data.toList pos t[pos].toNat=b0 at hb0
      have Hch:=hd (ch_get t pos hlt)
      have fz:=Hb3.out.it.free
      have hp':(pos:Int)<t.size:=by omega
      have hp0:(0:Int)<=(pos:Int):=by omega
      have HB1:Hid (B≠C+1):=hd (by intro e;obtain⟨arr,hx,_⟩:=Hb3.out.it;rw[e,hit2]at hx;cases hx)
      obtain⟨g,rfl⟩:∃g,gk=g+1:=⟨gk-1,by omega⟩
      go_wp2
      go_region
      all_goals go_wp2
      all_goals go_roundg g
      case measure=>omega
      case rel=>exact⟨pos+1,(Below.heap_setCell _ _ _ _ (fun e=>HB1.out e.symm)).trans hit2,(World.cell?_setCell_other _ _ _ _ (fun e=>HC.out (congrArg Addr.block e))).trans hcc2,hd ((Hb3.out.set _ (by omega) true).drew.cg (fun c _=>by rw[Hch.out];exact addB_s F _ pos c)),by omega,by omega⟩
     ·have hnx:∀ty,(Instr.next (.pointer (some ⟨C+1,0,none⟩)) true ty).run Tryz.prog _=_:=fun ty=>Lib.run_next_end_at _ (C+1) t pos ty hit hlt
      clear hit hcc
      cases hsp:spB s.data.toList (p+9)
      ·have Hsp:=hd hsp
       have he:Hid (e0=0/\p0=p+9):=by have:=Hm.out;rw[Hcl.out]at this;simp[hsp]at this;exact⟨this.1.symm,this.2.1.symm⟩
       clear hsp
       go_wp2_with (go_at_call 97;refine(spans_b s _ (p+9) _ _ (by omega) Hsp.out (by omega)).mono ?_;rintro e w' ⟨rfl,rfl⟩)
       go_ret
       rw[he.out.1,he.out.2]
       obtain rfl:pos=t.size:=by omega
       exact⟨by go_num,_,Hbx.out,fun _ c hc=>by rw[HcN.out];exact Hadd.out c hc⟩
      ·have Hsp:=hd hsp
       have he:Hid (e0=6/\p0=p+9):=by have:=Hm.out;rw[Hcl.out]at this;simp[hsp]at this;exact⟨this.1.symm,this.2.1.symm⟩
       clear hsp
       go_wp2_with (first
        |(go_at_call 97;refine(spans_b s _ (p+9) _ _ (by omega) Hsp.out (by omega)).mono ?_;rintro e w' ⟨rfl,rfl⟩)
        |(go_at_call 18;refine(wrong_any Hbx.out.rg 6 (p+9) _ (by omega) h0).mono ?_;rintro e w2 ⟨rfl,hr2,hk2⟩))
       go_ret
       rw[he.out.1,he.out.2]
       exact⟨by go_num,_,Hbx.out.step hr2 hk2,fun h=>absurd h (by omega)⟩
  ·obtain rfl:k=6:=by omega
   have Hcl:=hd (clsGo_no Hno.out)
   have he:Hid (e0=5/\p0=p):=by have:=Hm.out;rw[Hcl.out]at this;simp at this;exact⟨this.1.symm,this.2.1.symm⟩
   go_wp2_with (go_at_call 18;refine(wrong_any Hb.out.rg 5 p _ rfl h0).mono ?_;rintro e w2 ⟨rfl,hr2,hk2⟩)
   go_ret
   rw[he.out.1,he.out.2]
   exact⟨rfl,_,Hb.out.step hr2 hk2,fun h=>absurd h (by omega)⟩
end Go.Proofs.YtldiemjlpnachaaGreatDoor

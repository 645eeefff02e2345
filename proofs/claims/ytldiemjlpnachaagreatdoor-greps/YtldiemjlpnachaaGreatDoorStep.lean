import Derived.Test.YtldiemjlpnachaaGreatDoorEsc
set_option maxHeartbeats 1600000
set_option maxRecDepth 100000
namespace Go.Proofs.YtldiemjlpnachaaGreatDoor
open Go.RowKit
theorem Rd.le{w:World}{base R:Nat}{s:ByteArray}{H:Fins}{σ:St}(h:Rd w base R s H σ):R<=w.heap.size:=by have:=h.hR;have:=h.hb;omega
theorem escape_any{w:World}{base R:Nat}{s:ByteArray}{H:Fins}{σ:St}(h:Rd w base R s H σ)(hs:s.size<=60)(hB:Bd σ):
  Calls Tryz.prog 37 #[.pointer (some ⟨R,0,none⟩)] w fun e w'=>e= .returned (.int .i64 (escT s.data.toList σ).1)/\(∃H',Rd w' base R s H' (escT s.data.toList σ).2)/\Below R w w':=by
 by_cases hl:s.size<=σ.pos+1
 ·exact escape_end h hB hl
 have hlt:σ.pos+1<s.size:=by omega
 have hll:¬s.data.toList.length<=σ.pos+1:=by rw[len_data];exact hl
 have hg:=ch_get s (σ.pos+1) hlt
 by_cases e40:s[σ.pos+1].toNat=40
 ·have hz:escT s.data.toList σ=openT σ:=by unfold escT;rw[if_neg hll,<-hg,if_pos e40]
  rw[hz];exact escape_open h hB hlt (by omega)
 by_cases e41:s[σ.pos+1].toNat=41
 ·have hz:escT s.data.toList σ=closeT σ:=by unfold escT;rw[if_neg hll,<-hg,if_neg e40,if_pos e41]
  rw[hz];exact escape_close h hB hlt (by omega)
 by_cases e123:s[σ.pos+1].toNat=123
 ·have hz:escT s.data.toList σ=ivT s.data.toList σ:=by unfold escT;rw[if_neg hll,<-hg,if_neg e40,if_neg e41,if_pos e123]
  rw[hz];exact escape_ivl h hs hB hlt (by omega)
 by_cases e49:s[σ.pos+1].toNat=49
 ·have hz:escT s.data.toList σ=refT σ 1:=by unfold escT;rw[if_neg hll,<-hg,if_neg e40,if_neg e41,if_neg e123,if_pos (by omega),e49]
  rw[hz];exact escape_ref1 h hB hlt (by omega)
 by_cases e50:s[σ.pos+1].toNat=50
 ·have hz:escT s.data.toList σ=refT σ 2:=by unfold escT;rw[if_neg hll,<-hg,if_neg e40,if_neg e41,if_neg e123,if_pos (by omega),e50]
  rw[hz];exact escape_ref2 h hB hlt (by omega)
 by_cases e51:s[σ.pos+1].toNat=51
 ·have hz:escT s.data.toList σ=refT σ 3:=by unfold escT;rw[if_neg hll,<-hg,if_neg e40,if_neg e41,if_neg e123,if_pos (by omega),e51]
  rw[hz];exact escape_ref3 h hB hlt (by omega)
 by_cases e52:s[σ.pos+1].toNat=52
 ·have hz:escT s.data.toList σ=refT σ 4:=by unfold escT;rw[if_neg hll,<-hg,if_neg e40,if_neg e41,if_neg e123,if_pos (by omega),e52]
  rw[hz];exact escape_ref4 h hB hlt (by omega)
 by_cases e53:s[σ.pos+1].toNat=53
 ·have hz:escT s.data.toList σ=refT σ 5:=by unfold escT;rw[if_neg hll,<-hg,if_neg e40,if_neg e41,if_neg e123,if_pos (by omega),e53]
  rw[hz];exact escape_ref5 h hB hlt (by omega)
 by_cases e54:s[σ.pos+1].toNat=54
 ·have hz:escT s.data.toList σ=refT σ 6:=by unfold escT;rw[if_neg hll,<-hg,if_neg e40,if_neg e41,if_neg e123,if_pos (by omega),e54]
  rw[hz];exact escape_ref6 h hB hlt (by omega)
 by_cases e55:s[σ.pos+1].toNat=55
 ·have hz:escT s.data.toList σ=refT σ 7:=by unfold escT;rw[if_neg hll,<-hg,if_neg e40,if_neg e41,if_neg e123,if_pos (by omega),e55]
  rw[hz];exact escape_ref7 h hB hlt (by omega)
 by_cases e56:s[σ.pos+1].toNat=56
 ·have hz:escT s.data.toList σ=refT σ 8:=by unfold escT;rw[if_neg hll,<-hg,if_neg e40,if_neg e41,if_neg e123,if_pos (by omega),e56]
  rw[hz];exact escape_ref8 h hB hlt (by omega)
 by_cases e57:s[σ.pos+1].toNat=57
 ·have hz:escT s.data.toList σ=refT σ 9:=by unfold escT;rw[if_neg hll,<-hg,if_neg e40,if_neg e41,if_neg e123,if_pos (by omega),e57]
  rw[hz];exact escape_ref9 h hB hlt (by omega)
 by_cases e46:s[σ.pos+1].toNat=46
 ·have hz:escT s.data.toList σ=(0,addIt σ (itOne (addS noS s[σ.pos+1].toNat)) 2):=by unfold escT;rw[if_neg hll,<-hg,if_neg e40,if_neg e41,if_neg e123,if_neg (by omega),if_pos (by rw[e46];simp)]
  rw[hz];exact escape_put46 h hB hlt (by omega)
 by_cases e91:s[σ.pos+1].toNat=91
 ·have hz:escT s.data.toList σ=(0,addIt σ (itOne (addS noS s[σ.pos+1].toNat)) 2):=by unfold escT;rw[if_neg hll,<-hg,if_neg e40,if_neg e41,if_neg e123,if_neg (by omega),if_pos (by rw[e91];simp)]
  rw[hz];exact escape_put91 h hB hlt (by omega)
 by_cases e93:s[σ.pos+1].toNat=93
 ·have hz:escT s.data.toList σ=(0,addIt σ (itOne (addS noS s[σ.pos+1].toNat)) 2):=by unfold escT;rw[if_neg hll,<-hg,if_neg e40,if_neg e41,if_neg e123,if_neg (by omega),if_pos (by rw[e93];simp)]
  rw[hz];exact escape_put93 h hB hlt (by omega)
 by_cases e42:s[σ.pos+1].toNat=42
 ·have hz:escT s.data.toList σ=(0,addIt σ (itOne (addS noS s[σ.pos+1].toNat)) 2):=by unfold escT;rw[if_neg hll,<-hg,if_neg e40,if_neg e41,if_neg e123,if_neg (by omega),if_pos (by rw[e42];simp)]
  rw[hz];exact escape_put42 h hB hlt (by omega)
 by_cases e94:s[σ.pos+1].toNat=94
 ·have hz:escT s.data.toList σ=(0,addIt σ (itOne (addS noS s[σ.pos+1].toNat)) 2):=by unfold escT;rw[if_neg hll,<-hg,if_neg e40,if_neg e41,if_neg e123,if_neg (by omega),if_pos (by rw[e94];simp)]
  rw[hz];exact escape_put94 h hB hlt (by omega)
 by_cases e36:s[σ.pos+1].toNat=36
 ·have hz:escT s.data.toList σ=(0,addIt σ (itOne (addS noS s[σ.pos+1].toNat)) 2):=by unfold escT;rw[if_neg hll,<-hg,if_neg e40,if_neg e41,if_neg e123,if_neg (by omega),if_pos (by rw[e36];simp)]
  rw[hz];exact escape_put36 h hB hlt (by omega)
 by_cases e92:s[σ.pos+1].toNat=92
 ·have hz:escT s.data.toList σ=(0,addIt σ (itOne (addS noS s[σ.pos+1].toNat)) 2):=by unfold escT;rw[if_neg hll,<-hg,if_neg e40,if_neg e41,if_neg e123,if_neg (by omega),if_pos (by rw[e92];simp)]
  rw[hz];exact escape_put92 h hB hlt (by omega)
 have hz:escT s.data.toList σ=(3,σ):=by unfold escT;rw[if_neg hll,<-hg,if_neg e40,if_neg e41,if_neg e123,if_neg (by omega),if_neg (by simp;omega)]
 rw[hz];exact escape_bad h hB hlt (by omega) (by omega) (by omega) (by omega) (by omega) (by omega) (by omega) (by omega) (by omega) (by omega) (by omega) (by omega) (by omega) (by omega) (by omega) (by omega) (by omega) (by omega) (by omega)
def stepT(l:List UInt8)(σ:St):Nat×St:=
 if ch l σ.pos=92 then escT l σ
 else if ch l σ.pos=91 then brkT l σ
 else if ch l σ.pos=46 then(0,addIt σ (itOne (addR noS 0 255)) 1)
 else if ch l σ.pos=94/\σ.inner.items= []then(0,addIt σ itBeg 1)
 else if ch l σ.pos=36/\(decide (l.length<=σ.pos+1)||sw l (σ.pos+1) [92,41])=true then(0,addIt σ itFin 1)
 else if ch l σ.pos=42/\canB σ.inner.items=true then(0,{σ with pos:=σ.pos+1,inner:= {σ.inner with items:=repL σ.inner.items 0 (-1)}})
 else(0,addIt σ (itOne (addS noS (ch l σ.pos))) 1)
theorem endsRow_b{w:World}{base R:Nat}{s:ByteArray}{H:Fins}{σ:St}(b:Bool)(h:Rd w base R s H σ)(hs:s.size<=60)(i:Int)(q:Nat)(hiq:i=q)(hq:q<=1000)(hb:(decide (s.size<=q)||sw s.data.toList q [92,41])=b):
  Calls Tryz.prog 41 #[.pointer (some ⟨R,0,none⟩),.int .i64 i] w fun e w'=>e= .returned (.bool b)/\w'=w:=by
 subst hb
 exact endsRow_any h hs i q hiq hq
theorem step_esc{w:World}{base R:Nat}{s:ByteArray}{H:Fins}{σ:St}(h:Rd w base R s H σ)(hs:s.size<=60)(hB:Bd σ)(c:Int)(hc:c=92):
  Calls Tryz.prog 23 #[.pointer (some ⟨R,0,none⟩),.int .u8 c] w fun e w'=>e= .returned (.int .i64 (escT s.data.toList σ).1)/\(∃H',Rd w' base R s H' (escT s.data.toList σ).2)/\Below R w w':=by
 have HB:=hd hB
 have hp:=hB.1
 clear hB
 subst hc
 go_enter Tryz.func23,Tryz.ntmps23
 go_wp2_with fail
 refine(escape_any h hs HB.out).mono ?_
 rintro e w2 ⟨rfl,hr,hbw⟩
 have HR:=hd hr
 have HW:=hd hbw
 clear hr hbw
 go_wp2
 go_ret
 exact⟨rfl,HR.out,HW.out⟩
theorem step_brk{w:World}{base R:Nat}{s:ByteArray}{H:Fins}{σ:St}(h:Rd w base R s H σ)(hnm:NamesIn w)(hs:s.size<=60)(hB:Bd σ)(c:Int)(hc:c=91)(hl:σ.pos<s.size)(hq:(brk s.data.toList σ.pos).2<=1000)(he:(brk s.data.toList σ.pos).1<=100):
  Calls Tryz.prog 23 #[.pointer (some ⟨R,0,none⟩),.int .u8 c] w fun e w'=>e= .returned (.int .i64 (brkT s.data.toList σ).1)/\(∃H',Rd w' base R s H' (brkT s.data.toList σ).2)/\Below R w w':=by
 have HB:=hd hB
 have hp:=hB.1
 clear hB
 subst hc
 go_enter Tryz.func23,Tryz.ntmps23
 go_wp2_with fail
 refine(bracket_rd h hnm hs hl HB.out.2.1 hq he).mono ?_
 rintro e w2 ⟨rfl,hr,hbw⟩
 have HR:=hd hr
 have HW:=hd hbw
 clear hr hbw
 go_wp2
 go_ret
 exact⟨rfl,⟨H,HR.out⟩,HW.out⟩
theorem step_dot{w:World}{base R:Nat}{s:ByteArray}{H:Fins}{σ:St}(h:Rd w base R s H σ)(hB:Bd σ)(c:Int)(hc:c=46):
  Calls Tryz.prog 23 #[.pointer (some ⟨R,0,none⟩),.int .u8 c] w fun e w'=>e= .returned (.int .i64 (((0,addIt σ (itOne (addR noS 0 255)) 1):Nat×St)).1)/\(∃H',Rd w' base R s H' (((0,addIt σ (itOne (addR noS 0 255)) 1):Nat×St)).2)/\Below R w w':=by
 have HB:=hd hB
 have hp:=hB.1
 clear hB
 subst hc
 go_enter Tryz.func23,Tryz.ntmps23
 go_wp2_with fail
 refine(anyByte_any _).mono ?_
 rintro e w2 ⟨a0,a1,a2,a3,a4,a5,a6,a7,rfl,hw8,hb2⟩
 have H8:=hd hw8
 clear hw8
 have hr2:=h.below hb2
 have HW2:=hd (hb2.mono h.le)
 clear hb2
 go_wp2_with fail
 refine(put_rd hr2 1 (by omega) hp HB.out.2.1 0 a0 a1 a2 a3 a4 a5 a6 a7 0 0 0 none 0 0 (itOne (addR noS 0 255)) (ok_one H _ H8.out)).mono ?_
 rintro e w3 ⟨rfl,hr,hbw⟩
 have HR:=hd hr
 have HW:=hd hbw
 clear hr hbw hr2
 go_wp2
 go_ret
 exact⟨rfl,⟨H,HR.out⟩,HW2.out.trans HW.out⟩
theorem step_hat{w:World}{base R:Nat}{s:ByteArray}{H:Fins}{σ:St}(h:Rd w base R s H σ)(hB:Bd σ)(c:Int)(hc:c=94)(hit:σ.inner.items= []):
  Calls Tryz.prog 23 #[.pointer (some ⟨R,0,none⟩),.int .u8 c] w fun e w'=>e= .returned (.int .i64 (((0,addIt σ itBeg 1):Nat×St)).1)/\(∃H',Rd w' base R s H' (((0,addIt σ itBeg 1):Nat×St)).2)/\Below R w w':=by
 have HB:=hd hB
 have hp:=hB.1
 clear hB
 subst hc
 obtain⟨vi,_,_,h4,_,hlive,_,_,_⟩:=h.rows
 obtain⟨ao,cp,rfl⟩:=hlive.shape
 clear hlive
 have hz0:σ.inner.items.length=0:=by rw[hit];rfl
 rw[hz0]at h4
 have Hit:=hd hit
 clear hit hz0
 go_enter Tryz.func23,Tryz.ntmps23
 go_wp2_with fail
 refine(put_rd h 1 (by omega) hp HB.out.2.1 1 0 0 0 0 0 0 0 0 0 0 0 none 0 0 itBeg (ok_beg H)).mono ?_
 rintro e w3 ⟨rfl,hr,hbw⟩
 have HR:=hd hr
 have HW:=hd hbw
 clear hr hbw
 go_wp2
 go_ret
 exact⟨rfl,⟨H,HR.out⟩,HW.out⟩
theorem step_hat2{w:World}{base R:Nat}{s:ByteArray}{H:Fins}{σ:St}(h:Rd w base R s H σ)(hB:Bd σ)(c:Int)(hc:c=94)(hit:σ.inner.items≠ []):
  Calls Tryz.prog 23 #[.pointer (some ⟨R,0,none⟩),.int .u8 c] w fun e w'=>e= .returned (.int .i64 (((0,addIt σ (itOne (addS noS c.toNat)) 1):Nat×St)).1)/\(∃H',Rd w' base R s H' (((0,addIt σ (itOne (addS noS c.toNat)) 1):Nat×St)).2)/\Below R w w':=by
 have HB:=hd hB
 have hp:=hB.1
 clear hB
 subst hc
 obtain⟨vi,_,_,h4,_,hlive,_,_,_⟩:=h.rows
 obtain⟨ao,cp,rfl⟩:=hlive.shape
 clear hlive
 have hz0:((σ.inner.items.length:Int)==0)=false:=by simpa using hit
 clear hit
 go_enter Tryz.func23,Tryz.ntmps23
 go_wp2_with fail
 refine(oneByte_any _ _ (by omega) (by omega)).mono ?_
 rintro e w2 ⟨a0,a1,a2,a3,a4,a5,a6,a7,rfl,hw8,hb2⟩
 have H8:=hd hw8
 clear hw8
 have hr2:=h.below hb2
 have HW2:=hd (hb2.mono h.le)
 clear hb2
 go_wp2_with fail
 refine(put_rd hr2 1 (by omega) hp HB.out.2.1 0 a0 a1 a2 a3 a4 a5 a6 a7 0 0 0 none 0 0 (itOne (addS noS 94)) (ok_one H _ H8.out)).mono ?_
 rintro e w3 ⟨rfl,hr,hbw⟩
 have HR:=hd hr
 have HW:=hd hbw
 clear hr hbw hr2
 go_wp2
 go_ret
 exact⟨rfl,⟨H,HR.out⟩,HW2.out.trans HW.out⟩
theorem step_end{w:World}{base R:Nat}{s:ByteArray}{H:Fins}{σ:St}(h:Rd w base R s H σ)(hs:s.size<=60)(hB:Bd σ)(c:Int)(hc:c=36)(he:(decide (s.size<=σ.pos+1)||sw s.data.toList (σ.pos+1) [92,41])=true)(hp2:σ.pos+1<=1000):
  Calls Tryz.prog 23 #[.pointer (some ⟨R,0,none⟩),.int .u8 c] w fun e w'=>e= .returned (.int .i64 (((0,addIt σ itFin 1):Nat×St)).1)/\(∃H',Rd w' base R s H' (((0,addIt σ itFin 1):Nat×St)).2)/\Below R w w':=by
 have HB:=hd hB
 have hp:=hB.1
 clear hB
 subst hc
 have c1:=h.c1
 have he':=hd he
 clear he
 go_enter Tryz.func23,Tryz.ntmps23
 go_wp2_with (go_at_call 41;refine(endsRow_b true (by exact h) hs _ (σ.pos+1) (by omega) (by omega) he'.out).mono ?_;rintro e w' ⟨rfl,rfl⟩)
 refine(put_rd h 1 (by omega) hp HB.out.2.1 2 0 0 0 0 0 0 0 0 0 0 0 none 0 0 itFin (ok_fin H)).mono ?_
 rintro e w3 ⟨rfl,hr,hbw⟩
 have HR:=hd hr
 have HW:=hd hbw
 clear hr hbw
 go_wp2
 go_ret
 exact⟨rfl,⟨H,HR.out⟩,HW.out⟩
theorem step_end2{w:World}{base R:Nat}{s:ByteArray}{H:Fins}{σ:St}(h:Rd w base R s H σ)(hs:s.size<=60)(hB:Bd σ)(c:Int)(hc:c=36)(he:(decide (s.size<=σ.pos+1)||sw s.data.toList (σ.pos+1) [92,41])=false)(hp2:σ.pos+1<=1000):
  Calls Tryz.prog 23 #[.pointer (some ⟨R,0,none⟩),.int .u8 c] w fun e w'=>e= .returned (.int .i64 (((0,addIt σ (itOne (addS noS c.toNat)) 1):Nat×St)).1)/\(∃H',Rd w' base R s H' (((0,addIt σ (itOne (addS noS c.toNat)) 1):Nat×St)).2)/\Below R w w':=by
 have HB:=hd hB
 have hp:=hB.1
 clear hB
 subst hc
 have c1:=h.c1
 have he':=hd he
 clear he
 go_enter Tryz.func23,Tryz.ntmps23
 go_wp2_with (go_at_call 41;refine(endsRow_b false (by exact h) hs _ (σ.pos+1) (by omega) (by omega) he'.out).mono ?_;rintro e w' ⟨rfl,rfl⟩)
 go_wp2_with fail
 refine(oneByte_any _ _ (by omega) (by omega)).mono ?_
 rintro e w2 ⟨a0,a1,a2,a3,a4,a5,a6,a7,rfl,hw8,hb2⟩
 have H8:=hd hw8
 clear hw8
 have hr2:=h.below hb2
 have HW2:=hd (hb2.mono h.le)
 clear hb2
 go_wp2_with fail
 refine(put_rd hr2 1 (by omega) hp HB.out.2.1 0 a0 a1 a2 a3 a4 a5 a6 a7 0 0 0 none 0 0 (itOne (addS noS 36)) (ok_one H _ H8.out)).mono ?_
 rintro e w3 ⟨rfl,hr,hbw⟩
 have HR:=hd hr
 have HW:=hd hbw
 clear hr hbw hr2
 go_wp2
 go_ret
 exact⟨rfl,⟨H,HR.out⟩,HW2.out.trans HW.out⟩
theorem step_star2{w:World}{base R:Nat}{s:ByteArray}{H:Fins}{σ:St}(h:Rd w base R s H σ)(hB:Bd σ)(c:Int)(hc:c=42)(hcb:canB σ.inner.items=false):
  Calls Tryz.prog 23 #[.pointer (some ⟨R,0,none⟩),.int .u8 c] w fun e w'=>e= .returned (.int .i64 (((0,addIt σ (itOne (addS noS c.toNat)) 1):Nat×St)).1)/\(∃H',Rd w' base R s H' (((0,addIt σ (itOne (addS noS c.toNat)) 1):Nat×St)).2)/\Below R w w':=by
 have HB:=hd hB
 have hp:=hB.1
 clear hB
 subst hc
 have hcb':=hd hcb
 clear hcb
 go_enter Tryz.func23,Tryz.ntmps23
 go_wp2_with (go_at_call 42;refine(canRepeat_b false hcb'.out (by exact h) HB.out.2.1).mono ?_;rintro e w' ⟨rfl,rfl⟩)
 go_wp2_with fail
 refine(oneByte_any _ _ (by omega) (by omega)).mono ?_
 rintro e w2 ⟨a0,a1,a2,a3,a4,a5,a6,a7,rfl,hw8,hb2⟩
 have H8:=hd hw8
 clear hw8
 have hr2:=h.below hb2
 have HW2:=hd (hb2.mono h.le)
 clear hb2
 go_wp2_with fail
 refine(put_rd hr2 1 (by omega) hp HB.out.2.1 0 a0 a1 a2 a3 a4 a5 a6 a7 0 0 0 none 0 0 (itOne (addS noS 42)) (ok_one H _ H8.out)).mono ?_
 rintro e w3 ⟨rfl,hr,hbw⟩
 have HR:=hd hr
 have HW:=hd hbw
 clear hr hbw hr2
 go_wp2
 go_ret
 exact⟨rfl,⟨H,HR.out⟩,HW2.out.trans HW.out⟩
theorem step_star{w:World}{base R:Nat}{s:ByteArray}{H:Fins}{σ:St}(h:Rd w base R s H σ)(hB:Bd σ)(c:Int)(hc:c=42)(hcb:canB σ.inner.items=true):
  Calls Tryz.prog 23 #[.pointer (some ⟨R,0,none⟩),.int .u8 c] w fun e w'=>e= .returned (.int .i64 (((0,{σ with pos:=σ.pos+1,inner:= {σ.inner with items:=repL σ.inner.items 0 (-1)}}):Nat×St)).1)/\(∃H',Rd w' base R s H' (((0,{σ with pos:=σ.pos+1,inner:= {σ.inner with items:=repL σ.inner.items 0 (-1)}}):Nat×St)).2)/\Below R w w':=by
 have HB:=hd hB
 have hp:=hB.1
 clear hB
 subst hc
 obtain⟨is,it,hit⟩:∃is it,σ.inner.items=is++ [it]:=by
  rcases list_snoc σ.inner.items with e|e
  ·rw[e]at hcb;cases hcb
  ·exact e
 have hil:is.length<=1000:=by have hi:=HB.out.2.1;rw[hit]at hi;simp at hi;omega
 have Hit:=hd hit
 have hcb':=hd hcb
 clear hcb hit
 go_enter Tryz.func23,Tryz.ntmps23
 go_wp2_with (go_at_call 42;refine(canRepeat_b true hcb'.out (by exact h) HB.out.2.1).mono ?_;rintro e w' ⟨rfl,rfl⟩)
 go_wp2_with fail
 refine(repeat_rd (by exact h) is it Hit.out 0 (-1) (by omega) (by omega) (.inl rfl) hil).mono ?_
 rintro e w2 ⟨rfl,H',hrd,hbw⟩
 have d1:=hrd.c1
 have g1:=hrd.fz 1 (by omega)
 have HR:=hd (hrd.moved (σ.pos+1))
 have HW:=hd hbw
 clear hrd hbw
 go_wp2
 go_ret
 refine⟨rfl,⟨H',?_⟩,?_⟩
 ·have:=HR.out.1
  rw[Hit.out,repL_snoc]
  simpa using this
 ·have:=HW.out.trans HR.out.2
  simpa using this
theorem step_plain{w:World}{base R:Nat}{s:ByteArray}{H:Fins}{σ:St}(h:Rd w base R s H σ)(hB:Bd σ)(c:Int)(n92:c≠92)(n91:c≠91)(n46:c≠46)(n94:c≠94)(n36:c≠36)(n42:c≠42)(hc0:0<=c)(hc1:c<=255):
  Calls Tryz.prog 23 #[.pointer (some ⟨R,0,none⟩),.int .u8 c] w fun e w'=>e= .returned (.int .i64 (((0,addIt σ (itOne (addS noS c.toNat)) 1):Nat×St)).1)/\(∃H',Rd w' base R s H' (((0,addIt σ (itOne (addS noS c.toNat)) 1):Nat×St)).2)/\Below R w w':=by
 have HB:=hd hB
 have hp:=hB.1
 clear hB
 have m92:(c==92)=false:=by simpa using n92
 have m91:(c==91)=false:=by simpa using n91
 have m46:(c==46)=false:=by simpa using n46
 have m94:(c==94)=false:=by simpa using n94
 have m36:(c==36)=false:=by simpa using n36
 have m42:(c==42)=false:=by simpa using n42
 clear n92 n91 n46 n94 n36 n42
 go_enter Tryz.func23,Tryz.ntmps23
 go_wp2_with fail
 refine(oneByte_any _ _ hc0 hc1).mono ?_
 rintro e w2 ⟨a0,a1,a2,a3,a4,a5,a6,a7,rfl,hw8,hb2⟩
 have H8:=hd hw8
 clear hw8
 have hr2:=h.below hb2
 have HW2:=hd (hb2.mono h.le)
 clear hb2
 go_wp2_with fail
 refine(put_rd hr2 1 (by omega) hp HB.out.2.1 0 a0 a1 a2 a3 a4 a5 a6 a7 0 0 0 none 0 0 (itOne (addS noS c.toNat)) (ok_one H _ H8.out)).mono ?_
 rintro e w3 ⟨rfl,hr,hbw⟩
 have HR:=hd hr
 have HW:=hd hbw
 clear hr hbw hr2
 go_wp2
 go_ret
 exact⟨rfl,⟨H,HR.out⟩,HW2.out.trans HW.out⟩
end Go.Proofs.YtldiemjlpnachaaGreatDoor
namespace Go.Proofs.YtldiemjlpnachaaGreatDoor
open Go.RowKit
theorem brkGo_bd{l:List UInt8}{start first:Nat}(hs:start<l.length):∀f p bc e q,start<p->p<=l.length->brkGo l start first f p bc=(e,q)->e<=6/\q<=l.length/\(e=0->start<q)
 |0,p,bc,e,q,_,_,h=>by
  rw[brkGo]at h;simp at h;omega
 |f+1,p,bc,e,q,h1,h2,h=>by
  rw[brkGo]at h
  split at h
  ·rename_i hp
   split at h
   ·simp at h;omega
   ·obtain⟨e0,p1,b1,hm⟩:∃e0 p1 b1,mstep l p bc=(e0,p1,b1):=⟨_,_,_,rfl⟩
    have hbd:=mstep_bd hp hm
    rw[hm]at h
    simp only at h
    split at h
    ·exact brkGo_bd hs f p1 b1 e q (by omega) (by omega) h
    ·rename_i he
     simp at h
     omega
  ·simp at h;omega
theorem brk_bd{l:List UInt8}{start e q:Nat}(hs:start<l.length)(h:brk l start=(e,q)):e<=6/\q<=l.length/\(e=0->start<q):=by
 unfold brk at h
 by_cases hsw:sw l (start+1) [94]=true
 ·have hf:brkFirst l start=start+2:=by unfold brkFirst;rw[if_pos hsw]
  rw[hf]at h
  rw[sw1]at hsw
  simp at hsw
  exact brkGo_bd hs _ _ _ _ _ (by omega) (by omega) h
 ·have hf:brkFirst l start=start+1:=by unfold brkFirst;rw[if_neg hsw]
  rw[hf]at h
  exact brkGo_bd hs _ _ _ _ _ (by omega) (by omega) h
structure Inv(l:List UInt8)(σ:St):Prop where
 pos:σ.pos<=l.length
 items:σ.inner.items.length<=σ.pos
 outer:σ.outer.length<=σ.pos
 groups:σ.groups<=9
 refs:σ.refs<=2
 number:σ.inner.number<=σ.groups
 rows:∀r∈σ.outer,r.items.length<=σ.pos/\r.number<=σ.groups
theorem Inv.bd{l:List UInt8}{σ:St}(h:Inv l σ)(hl:l.length<=60):Bd σ:=
 ⟨by have:=h.pos;omega,by have:=h.items;have:=h.pos;omega,by have:=h.outer;have:=h.pos;omega,h.groups,h.refs,by have:=h.number;have:=h.groups;omega,fun r hr=>by have:=(h.rows r hr).1;have:=h.pos;omega⟩
theorem Inv.add{l:List UInt8}{σ:St}(h:Inv l σ)(it:It)(wd:Nat)(hw:1<=wd)(hp:σ.pos+wd<=l.length):Inv l (addIt σ it wd)/\σ.pos<(addIt σ it wd).pos:=by
 have:=h.items
 have:=h.outer
 refine⟨⟨hp,?_,by show σ.outer.length<=σ.pos+wd;omega,h.groups,h.refs,h.number,fun r hr=>?_⟩,by show σ.pos<σ.pos+wd;omega⟩
 ·show(σ.inner.items++ [it]).length<=σ.pos+wd
  simp;omega
 ·have:=h.rows r hr
  exact⟨by show _<=σ.pos+wd;omega,this.2⟩
theorem repL_len(its:List It)(l m:Int)(h:canB its=true):(repL its l m).length=its.length:=by
 rcases list_snoc its with e|⟨is,i,e⟩
 ·rw[e]at h;cases h
 ·rw[e,repL_snoc];simp
theorem Inv.rep{l:List UInt8}{σ:St}(h:Inv l σ)(q:Nat)(a b:Int)(hc:canB σ.inner.items=true)(h1:σ.pos<q)(h2:q<=l.length):Inv l {σ with pos:=q,inner:= {σ.inner with items:=repL σ.inner.items a b}}:=by
 have:=h.items
 have:=h.outer
 refine⟨h2,?_,by show σ.outer.length<=q;omega,h.groups,h.refs,h.number,fun r hr=>?_⟩
 ·show(repL σ.inner.items a b).length<=q
  rw[repL_len _ _ _ hc];omega
 ·have:=h.rows r hr
  exact⟨by show _<=q;omega,this.2⟩
theorem stepT_inv{l:List UInt8}{σ σ':St}(h:Inv l σ)(hp:σ.pos<l.length)(hs:stepT l σ=(0,σ')):Inv l σ'/\σ.pos<σ'.pos:=by
 have hit:=h.items
 have hou:=h.outer
 unfold stepT at hs
 split at hs
 ·unfold escT at hs
  split at hs
  ·simp at hs
  ·rename_i hl
   have hp2:σ.pos+2<=l.length:=by omega
   split at hs
   ·unfold openT at hs
    split at hs
    ·simp at hs
    ·rename_i hg
     simp only[Prod.mk.injEq,true_and]at hs
     subst hs
     refine⟨⟨hp2,by simp,?_,by show σ.groups+1<=9;omega,h.refs,Nat.le_refl _,fun r hr=>?_⟩,by show σ.pos<σ.pos+2;omega⟩
     ·show(σ.outer++ [σ.inner]).length<=σ.pos+2
      simp;omega
     ·have hr':r∈σ.outer\/r=σ.inner:=by simpa using hr
      rcases hr' with hr|rfl
      ·have:=h.rows r hr
       exact⟨by show _<=σ.pos+2;omega,by show _<=σ.groups+1;omega⟩
      ·have:=h.number
       exact⟨by show _<=σ.pos+2;omega,by show _<=σ.groups+1;omega⟩
   ·split at hs
    ·unfold closeT at hs
     rcases list_snoc σ.outer with ho|⟨os,r,ho⟩
     ·rw[ho]at hs;simp at hs
     ·rw[ho]at hs
      simp only[List.getLast?_append,List.getLast?_singleton,Option.some_or,List.dropLast_concat,Prod.mk.injEq,true_and]at hs
      subst hs
      have hr:=h.rows r (by rw[ho];simp)
      have hol:os.length+1=σ.outer.length:=by rw[ho];simp
      refine⟨⟨hp2,?_,by show os.length<=σ.pos+2;omega,h.groups,h.refs,hr.2,fun r' hr'=>?_⟩,by show σ.pos<σ.pos+2;omega⟩
      ·show(r.items++ [_]).length<=σ.pos+2
       simp;omega
      ·have:=h.rows r' (by rw[ho];simp;exact .inl hr')
       exact⟨by show _<=σ.pos+2;omega,this.2⟩
    ·split at hs
     ·unfold ivT at hs
      split at hs
      ·simp at hs
      ·rename_i hc
       split at hs
       ·simp at hs
       ·rename_i m n k hv
        have hbd:=ivl_bd hv
        simp only[Prod.mk.injEq,true_and]at hs
        subst hs
        exact⟨h.rep k m n (by simpa using hc) (by omega) (by omega),by show σ.pos<k;omega⟩
     ·split at hs
      ·unfold refT at hs
       split at hs
       ·simp at hs
       ·split at hs
        ·simp only[Prod.mk.injEq,true_and]at hs
         subst hs
         exact h.add (itBack _) 2 (by omega) hp2
        ·split at hs
         ·simp at hs
         ·simp only[Prod.mk.injEq,true_and]at hs
          subst hs
          obtain⟨⟨i1,i2,i3,i4,i5,i6,i7⟩,i8⟩:=h.add (itBack _) 2 (by omega) hp2
          exact⟨⟨i1,i2,i3,i4,by show(σ.refl++ [_]).length<=2;simp only[St.refs,List.length_append,List.length_singleton]at*;omega,i6,i7⟩,i8⟩
      ·split at hs
       ·simp only[Prod.mk.injEq,true_and]at hs
        subst hs
        exact h.add (itOne _) 2 (by omega) hp2
       ·simp at hs
 ·have hp1:σ.pos+1<=l.length:=by omega
  split at hs
  ·unfold brkT at hs
   split at hs
   ·rename_i he
    simp only[Prod.mk.injEq,true_and]at hs
    subst hs
    obtain⟨e,q,hbk⟩:∃e q,brk l σ.pos=(e,q):=⟨_,_,rfl⟩
    have hbd:=brk_bd hp hbk
    rw[hbk]at he ⊢
    simp only at he ⊢
    have hq:=hbd.2.2 he
    refine⟨⟨hbd.2.1,?_,by show σ.outer.length<=q;omega,h.groups,h.refs,h.number,fun r hr=>?_⟩,hq⟩
    ·show(σ.inner.items++ [_]).length<=q
     simp;omega
    ·have:=h.rows r hr
     exact⟨by show _<=q;omega,this.2⟩
   ·rename_i he
    simp only[Prod.mk.injEq]at hs
    exact absurd hs.1 he
  ·split at hs
   ·simp only[Prod.mk.injEq,true_and]at hs
    subst hs
    exact h.add (itOne _) 1 (by omega) hp1
   ·split at hs
    ·simp only[Prod.mk.injEq,true_and]at hs
     subst hs
     exact h.add itBeg 1 (by omega) hp1
    ·split at hs
     ·simp only[Prod.mk.injEq,true_and]at hs
      subst hs
      exact h.add itFin 1 (by omega) hp1
     ·split at hs
      ·rename_i hc
       simp only[Prod.mk.injEq,true_and]at hs
       subst hs
       exact⟨h.rep (σ.pos+1) 0 (-1) hc.2 (by omega) hp1,by show σ.pos<σ.pos+1;omega⟩
      ·simp only[Prod.mk.injEq,true_and]at hs
       subst hs
       exact h.add (itOne _) 1 (by omega) hp1
theorem step_any{w:World}{base R:Nat}{s:ByteArray}{H:Fins}{σ:St}(h:Rd w base R s H σ)(hnm:NamesIn w)(hs:s.size<=60)(hI:Inv s.data.toList σ)(hl:σ.pos<s.size)(c:Int)(hc:c=ch s.data.toList σ.pos):
  Calls Tryz.prog 23 #[.pointer (some ⟨R,0,none⟩),.int .u8 c] w fun e w'=>e= .returned (.int .i64 (stepT s.data.toList σ).1)/\(∃H',Rd w' base R s H' (stepT s.data.toList σ).2)/\Below R w w':=by
 have hB:=hI.bd (by rw[len_data];exact hs)
 have hc256:=ch_lt s.data.toList σ.pos
 have hct:c.toNat=ch s.data.toList σ.pos:=by omega
 by_cases e92:ch s.data.toList σ.pos=92
 ·have hz:stepT s.data.toList σ=escT s.data.toList σ:=by unfold stepT;rw[if_pos e92]
  rw[hz];exact step_esc h hs hB c (by omega)
 by_cases e91:ch s.data.toList σ.pos=91
 ·have hz:stepT s.data.toList σ=brkT s.data.toList σ:=by unfold stepT;rw[if_neg e92,if_pos e91]
  have hbd:=brk_bd (l:=s.data.toList) (start:=σ.pos) (e:=(brk s.data.toList σ.pos).1) (q:=(brk s.data.toList σ.pos).2) (by rw[len_data];exact hl) rfl
  rw[len_data]at hbd
  rw[hz];exact step_brk h hnm hs hB c (by omega) hl (by omega) (by omega)
 by_cases e46:ch s.data.toList σ.pos=46
 ·have hz:stepT s.data.toList σ=(0,addIt σ (itOne (addR noS 0 255)) 1):=by unfold stepT;rw[if_neg e92,if_neg e91,if_pos e46]
  rw[hz];exact step_dot h hB c (by omega)
 by_cases e94:ch s.data.toList σ.pos=94
 ·by_cases hit:σ.inner.items= []
  ·have hz:stepT s.data.toList σ=(0,addIt σ itBeg 1):=by unfold stepT;rw[if_neg e92,if_neg e91,if_neg e46,if_pos ⟨e94,hit⟩]
   rw[hz];exact step_hat h hB c (by omega) hit
  ·have hz:stepT s.data.toList σ=(0,addIt σ (itOne (addS noS c.toNat)) 1):=by unfold stepT;rw[if_neg e92,if_neg e91,if_neg e46,if_neg (fun x=>hit x.2),if_neg (by omega),if_neg (by omega),hct]
   rw[hz];exact step_hat2 h hB c (by omega) hit
 by_cases e36:ch s.data.toList σ.pos=36
 ·cases he:(decide (s.size<=σ.pos+1)||sw s.data.toList (σ.pos+1) [92,41])
  ·have hz:stepT s.data.toList σ=(0,addIt σ (itOne (addS noS c.toNat)) 1):=by unfold stepT;rw[if_neg e92,if_neg e91,if_neg e46,if_neg (by omega),if_neg (by rw[len_data,he];simp),if_neg (by omega),hct]
   rw[hz];exact step_end2 h hs hB c (by omega) he (by omega)
  ·have hz:stepT s.data.toList σ=(0,addIt σ itFin 1):=by unfold stepT;rw[if_neg e92,if_neg e91,if_neg e46,if_neg (by omega),if_pos ⟨e36,by rw[len_data,he]⟩]
   rw[hz];exact step_end h hs hB c (by omega) he (by omega)
 by_cases e42:ch s.data.toList σ.pos=42
 ·cases hcb:canB σ.inner.items
  ·have hz:stepT s.data.toList σ=(0,addIt σ (itOne (addS noS c.toNat)) 1):=by unfold stepT;rw[if_neg e92,if_neg e91,if_neg e46,if_neg (by omega),if_neg (by omega),if_neg (by rw[hcb];simp),hct]
   rw[hz];exact step_star2 h hB c (by omega) hcb
  ·have hz:stepT s.data.toList σ=(0,{σ with pos:=σ.pos+1,inner:= {σ.inner with items:=repL σ.inner.items 0 (-1)}}):=by unfold stepT;rw[if_neg e92,if_neg e91,if_neg e46,if_neg (by omega),if_neg (by omega),if_pos ⟨e42,hcb⟩]
   rw[hz];exact step_star h hB c (by omega) hcb
 have hz:stepT s.data.toList σ=(0,addIt σ (itOne (addS noS c.toNat)) 1):=by unfold stepT;rw[if_neg e92,if_neg e91,if_neg e46,if_neg (by omega),if_neg (by omega),if_neg (by omega),hct]
 rw[hz];exact step_plain h hB c (by omega) (by omega) (by omega) (by omega) (by omega) (by omega) (by omega) (by omega)
end Go.Proofs.YtldiemjlpnachaaGreatDoor

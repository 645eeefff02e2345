import Derived.Test.YtldiemjlpnachaaGreatDoorMem2
import Derived.Deep.LoopGhost
import Derived.Deep.RegionHeld3
set_option maxHeartbeats 800000
set_option maxRecDepth 100000
namespace Go.Proofs.YtldiemjlpnachaaGreatDoor
open Go.RowKit
theorem SetAt.at0{w:World}{B:Nat}(h:SetAt w B 0):∃z0 z1 z2 z3 z4 z5 z6 z7:Int,w.cell? ⟨B,0,none⟩=some (.int .u32 z0)/\w.cell? ⟨B,1,none⟩=some (.int .u32 z1)/\w.cell? ⟨B,2,none⟩=some (.int .u32 z2)/\w.cell? ⟨B,3,none⟩=some (.int .u32 z3)/\w.cell? ⟨B,4,none⟩=some (.int .u32 z4)/\w.cell? ⟨B,5,none⟩=some (.int .u32 z5)/\w.cell? ⟨B,6,none⟩=some (.int .u32 z6)/\w.cell? ⟨B,7,none⟩=some (.int .u32 z7):=by
 obtain⟨⟨z0,e0⟩,_⟩:=h 0 (by omega)
 obtain⟨⟨z1,e1⟩,_⟩:=h 1 (by omega)
 obtain⟨⟨z2,e2⟩,_⟩:=h 2 (by omega)
 obtain⟨⟨z3,e3⟩,_⟩:=h 3 (by omega)
 obtain⟨⟨z4,e4⟩,_⟩:=h 4 (by omega)
 obtain⟨⟨z5,e5⟩,_⟩:=h 5 (by omega)
 obtain⟨⟨z6,e6⟩,_⟩:=h 6 (by omega)
 obtain⟨⟨z7,e7⟩,_⟩:=h 7 (by omega)
 exact⟨z0,z1,z2,z3,z4,z5,z6,z7,e0,e1,e2,e3,e4,e5,e6,e7⟩
theorem SetAt.free0{w:World}{B:Nat}(h:SetAt w B 0):w.frozen? ⟨B,0,none⟩=false/\w.frozen? ⟨B,1,none⟩=false/\w.frozen? ⟨B,2,none⟩=false/\w.frozen? ⟨B,3,none⟩=false/\w.frozen? ⟨B,4,none⟩=false/\w.frozen? ⟨B,5,none⟩=false/\w.frozen? ⟨B,6,none⟩=false/\w.frozen? ⟨B,7,none⟩=false:=
 ⟨(h 0 (by omega)).2,(h 1 (by omega)).2,(h 2 (by omega)).2,(h 3 (by omega)).2,(h 4 (by omega)).2,(h 5 (by omega)).2,(h 6 (by omega)).2,(h 7 (by omega)).2⟩
theorem SetAt.at1{w:World}{B:Nat}(h:SetAt w B 1):∃z0 z1 z2 z3 z4 z5 z6 z7:Int,w.cell? ⟨B,1,none⟩=some (.int .u32 z0)/\w.cell? ⟨B,2,none⟩=some (.int .u32 z1)/\w.cell? ⟨B,3,none⟩=some (.int .u32 z2)/\w.cell? ⟨B,4,none⟩=some (.int .u32 z3)/\w.cell? ⟨B,5,none⟩=some (.int .u32 z4)/\w.cell? ⟨B,6,none⟩=some (.int .u32 z5)/\w.cell? ⟨B,7,none⟩=some (.int .u32 z6)/\w.cell? ⟨B,8,none⟩=some (.int .u32 z7):=by
 obtain⟨⟨z0,e0⟩,_⟩:=h 0 (by omega)
 obtain⟨⟨z1,e1⟩,_⟩:=h 1 (by omega)
 obtain⟨⟨z2,e2⟩,_⟩:=h 2 (by omega)
 obtain⟨⟨z3,e3⟩,_⟩:=h 3 (by omega)
 obtain⟨⟨z4,e4⟩,_⟩:=h 4 (by omega)
 obtain⟨⟨z5,e5⟩,_⟩:=h 5 (by omega)
 obtain⟨⟨z6,e6⟩,_⟩:=h 6 (by omega)
 obtain⟨⟨z7,e7⟩,_⟩:=h 7 (by omega)
 exact⟨z0,z1,z2,z3,z4,z5,z6,z7,e0,e1,e2,e3,e4,e5,e6,e7⟩
theorem SetAt.at2{w:World}{B:Nat}(h:SetAt w B 2):∃z0 z1 z2 z3 z4 z5 z6 z7:Int,w.cell? ⟨B,2,none⟩=some (.int .u32 z0)/\w.cell? ⟨B,3,none⟩=some (.int .u32 z1)/\w.cell? ⟨B,4,none⟩=some (.int .u32 z2)/\w.cell? ⟨B,5,none⟩=some (.int .u32 z3)/\w.cell? ⟨B,6,none⟩=some (.int .u32 z4)/\w.cell? ⟨B,7,none⟩=some (.int .u32 z5)/\w.cell? ⟨B,8,none⟩=some (.int .u32 z6)/\w.cell? ⟨B,9,none⟩=some (.int .u32 z7):=by
 obtain⟨⟨z0,e0⟩,_⟩:=h 0 (by omega)
 obtain⟨⟨z1,e1⟩,_⟩:=h 1 (by omega)
 obtain⟨⟨z2,e2⟩,_⟩:=h 2 (by omega)
 obtain⟨⟨z3,e3⟩,_⟩:=h 3 (by omega)
 obtain⟨⟨z4,e4⟩,_⟩:=h 4 (by omega)
 obtain⟨⟨z5,e5⟩,_⟩:=h 5 (by omega)
 obtain⟨⟨z6,e6⟩,_⟩:=h 6 (by omega)
 obtain⟨⟨z7,e7⟩,_⟩:=h 7 (by omega)
 exact⟨z0,z1,z2,z3,z4,z5,z6,z7,e0,e1,e2,e3,e4,e5,e6,e7⟩
def W8(z0 z1 z2 z3 z4 z5 z6 z7:Int)(f:Nat->Bool):Prop:=Word z0 f 0/\Word z1 f 1/\Word z2 f 2/\Word z3 f 3/\Word z4 f 4/\Word z5 f 5/\Word z6 f 6/\Word z7 f 7
theorem SetIs.word{w:World}{B o i:Nat}{f:Nat->Bool}{z:Int}(h:SetIs w B o f)(hi:i<8)(n:w.cell? ⟨B,o+i,none⟩=some (.int .u32 z)):Word z f i:=by
 obtain⟨u,hu,hw⟩:=h i hi
 rw[n]at hu
 cases hu
 exact hw
theorem SetIs.w8_2{w:World}{B:Nat}{f:Nat->Bool}{z0 z1 z2 z3 z4 z5 z6 z7:Int}(h:SetIs w B 2 f)(n0:w.cell? ⟨B,2,none⟩=some (.int .u32 z0))(n1:w.cell? ⟨B,3,none⟩=some (.int .u32 z1))(n2:w.cell? ⟨B,4,none⟩=some (.int .u32 z2))(n3:w.cell? ⟨B,5,none⟩=some (.int .u32 z3))(n4:w.cell? ⟨B,6,none⟩=some (.int .u32 z4))(n5:w.cell? ⟨B,7,none⟩=some (.int .u32 z5))(n6:w.cell? ⟨B,8,none⟩=some (.int .u32 z6))(n7:w.cell? ⟨B,9,none⟩=some (.int .u32 z7)):W8 z0 z1 z2 z3 z4 z5 z6 z7 f:=
 ⟨h.word (by omega) n0,h.word (by omega) n1,h.word (by omega) n2,h.word (by omega) n3,h.word (by omega) n4,h.word (by omega) n5,h.word (by omega) n6,h.word (by omega) n7⟩
theorem SetIs.w8_1{w:World}{B:Nat}{f:Nat->Bool}{z0 z1 z2 z3 z4 z5 z6 z7:Int}(h:SetIs w B 1 f)(n0:w.cell? ⟨B,1,none⟩=some (.int .u32 z0))(n1:w.cell? ⟨B,2,none⟩=some (.int .u32 z1))(n2:w.cell? ⟨B,3,none⟩=some (.int .u32 z2))(n3:w.cell? ⟨B,4,none⟩=some (.int .u32 z3))(n4:w.cell? ⟨B,5,none⟩=some (.int .u32 z4))(n5:w.cell? ⟨B,6,none⟩=some (.int .u32 z5))(n6:w.cell? ⟨B,7,none⟩=some (.int .u32 z6))(n7:w.cell? ⟨B,8,none⟩=some (.int .u32 z7)):W8 z0 z1 z2 z3 z4 z5 z6 z7 f:=
 ⟨h.word (by omega) n0,h.word (by omega) n1,h.word (by omega) n2,h.word (by omega) n3,h.word (by omega) n4,h.word (by omega) n5,h.word (by omega) n6,h.word (by omega) n7⟩
theorem NamesIn.lt{w:World}(h:NamesIn w):4<w.heap.size:=World.block_lt_of_cell? w _ h.1
theorem NamesIn.alloc{w:World}(h:NamesIn w)(o:Obj):NamesIn (w.alloc o):=by
 have hl:=h.lt
 obtain⟨h0,h1,h2,h3,h4,h5⟩:=h
 have e:∀i,(w.alloc o).cell? ⟨4,i,none⟩=w.cell? ⟨4,i,none⟩:=fun i=>World.cell?_alloc_lt _ _ _ hl
 exact⟨(e 0).trans h0,(e 1).trans h1,(e 2).trans h2,(e 3).trans h3,(e 4).trans h4,(e 5).trans h5⟩
theorem NamesIn.below{w w':World}{B:Nat}(h:NamesIn w)(k:Below B w w')(hB:4<B):NamesIn w':=by
 obtain⟨h0,h1,h2,h3,h4,h5⟩:=h
 exact⟨(k.cell (by exact hB)).trans h0,(k.cell (by exact hB)).trans h1,(k.cell (by exact hB)).trans h2,(k.cell (by exact hB)).trans h3,(k.cell (by exact hB)).trans h4,(k.cell (by exact hB)).trans h5⟩
def BrkSt(w wr:World)(s:ByteArray)(p:Nat)(bc:Bool):Prop:=
 Mem wr (w.heap.size+1) s p bc noS/\SetAt wr w.heap.size 0/\NamesIn wr/\Below w.heap.size w wr/\wr.heap.size=w.heap.size+2
theorem brk_start0(w:World)(s:ByteArray)(q:Int)(p:Nat)(hq:q=p)(hn:NamesIn w):
  BrkSt w ((w.alloc (Obj.cells #[.int .u32 0,.int .u32 0,.int .u32 0,.int .u32 0,.int .u32 0,.int .u32 0,.int .u32 0,.int .u32 0] 93)).alloc (Obj.cells #[.string s,.int .i64 q,.int .u32 0,.int .u32 0,.int .u32 0,.int .u32 0,.int .u32 0,.int .u32 0,.int .u32 0,.int .u32 0,.bool false] 162)) s p false:=by
 subst hq
 refine⟨⟨by simp,by simp,by simp,by simp,by simp,?_,?_⟩,?_,(hn.alloc _).alloc _,((Below.refl _ _).alloc (Nat.le_refl _) _).alloc (by simp) _,by simp⟩
 ·intro i hi
  refine⟨⟨0,?_⟩,by simp⟩
  rcases(show i=0\/i=1\/i=2\/i=3\/i=4\/i=5\/i=6\/i=7 by omega)with rfl|rfl|rfl|rfl|rfl|rfl|rfl|rfl<;>simp
 ·intro i hi
  refine⟨0,?_,Word.zero i⟩
  rcases(show i=0\/i=1\/i=2\/i=3\/i=4\/i=5\/i=6\/i=7 by omega)with rfl|rfl|rfl|rfl|rfl|rfl|rfl|rfl<;>simp
 ·intro i hi
  refine⟨⟨0,?_⟩,by simp⟩
  rcases(show i=0\/i=1\/i=2\/i=3\/i=4\/i=5\/i=6\/i=7 by omega)with rfl|rfl|rfl|rfl|rfl|rfl|rfl|rfl<;>simp
theorem below8{w wr:World}{B:Nat}(h:Below B w wr)(u0 u1 u2 u3 u4 u5 u6 u7:Value):Below B w ((((((((wr.setCell ⟨B,0,none⟩ u0).setCell ⟨B,1,none⟩ u1).setCell ⟨B,2,none⟩ u2).setCell ⟨B,3,none⟩ u3).setCell ⟨B,4,none⟩ u4).setCell ⟨B,5,none⟩ u5).setCell ⟨B,6,none⟩ u6).setCell ⟨B,7,none⟩ u7):=
 (((((((h.setCell (Nat.le_refl B) _).setCell (Nat.le_refl B) _).setCell (Nat.le_refl B) _).setCell (Nat.le_refl B) _).setCell (Nat.le_refl B) _).setCell (Nat.le_refl B) _).setCell (Nat.le_refl B) _).setCell (Nat.le_refl B) _
theorem readBracket_any(s:ByteArray)(start:Nat)(w:World)(hn:NamesIn w)(hs:s.size<=60)(hst:start<s.size):
  Calls Tryz.prog 62 #[.string s,.int .i64 start] w fun e w'=>∃z0 z1 z2 z3 z4 z5 z6 z7:Int,
   e= .returned (.tuple #[.agg #[.int .u32 z0,.int .u32 z1,.int .u32 z2,.int .u32 z3,.int .u32 z4,.int .u32 z5,.int .u32 z6,.int .u32 z7],.int .i64 (brk s.data.toList start).2,.int .i64 (brk s.data.toList start).1])/\((brk s.data.toList start).1=0->W8 z0 z1 z2 z3 z4 z5 z6 z7 (brkSet s.data.toList start))/\Below w.heap.size w w':=by
 cases hsw:sw s.data.toList (start+1) [94]
 ·have hfirst:brkFirst s.data.toList start=start+1:=by unfold brkFirst;rw[hsw];rfl
  have Hbrk:Hid (brk s.data.toList start=brkGo s.data.toList start (start+1) 61 (start+1) false):=by unfold brk;rw[hfirst];exact hd rfl
  have Hfirst:=hd hfirst
  have Hsw:=hd hsw
  clear hfirst
  go_enter Tryz.func62,Tryz.ntmps62
  go_wp2_with (go_at_call 64;refine(hasAt_b s _ _ (start+1) [94] false _ hsw (by omega) rfl (by omega) (by decide) (by decide) (by omega)).mono ?_;rintro e w' ⟨rfl,rfl⟩)
  have hst0:=brk_start0 w s ((start:Int)+1) (start+1) (by omega) hn
  generalize (w.alloc _).alloc _=W0 at hst0 ⊢
  obtain⟨hm0,hr0,hn0,hb0,hz0⟩:=hst0
  generalize hB:w.heap.size=B at hm0 hr0 hb0 hz0 ⊢
  have hGB:4<B:=by rw[<-hB];exact hn.lt
  have HB:=hd hB
  clear hB
  go_loopg [10,11] 61 (fun k _ _ wr=>∃(p:Nat) (bc:Bool) (F:Nat->Bool),Mem wr (B+1) s p bc F/\SetAt wr B 0/\NamesIn wr/\Hid (Below B w wr)/\start<p/\p<=s.size/\s.size<p+k/\Hid (brkGo s.data.toList start (start+1) k p bc=brk s.data.toList start/\brkS s.data.toList (start+1) k p bc F=brkS s.data.toList (start+1) 61 (start+1) false noS))
  case atStart=>exact⟨start+1,false,noS,hm0,hr0,hn0,hd hb0,by omega,by omega,by omega,hd ⟨Hbrk.out.symm,rfl⟩⟩
  case round=>
   obtain⟨p,bc,F,hmr,hrr,hnr,Hbr,hp0,hp1,hpk,HG⟩:=hrel
   have w1':=wrapI ((p:Int)+1) (by omega) (by omega)
   have c0:=hmr.c0
   have c1:=hmr.c1
   obtain⟨y0,y1,y2,y3,y4,y5,y6,y7,x0,x1,x2,x3,x4,x5,x6,x7⟩:=hrr.at0
   obtain⟨v0,v1,v2,v3,v4,v5,v6,v7⟩:=hrr.free0
   by_cases hlt:p<s.size
   ·have hcg:=hd (ch_get s p hlt)
    have hl:=hd (len_data s)
    by_cases h93:(s[p].toNat:Int)=93/\start+1<p
    ·obtain⟨ha,hb⟩:=h93
     have hbI:((start:Int)+1)<(p:Int):=by omega
     have Hz:Hid (brk s.data.toList start=(0,p+1)/\brkSet s.data.toList start=F):=by
      obtain⟨f,rfl⟩:∃f,gk=f+1:=⟨gk-1,by omega⟩
      refine⟨HG.out.1.symm.trans (brkGo_shut (by rw[hl.out];exact hlt) (by rw[<-hcg.out];omega) hb),?_⟩
      unfold brkSet
      rw[if_neg (by rw[Hsw.out];simp),Hfirst.out,<-HG.out.2,brkS_shut (by rw[hl.out];exact hlt) (by rw[<-hcg.out];omega) hb]
     clear x0 x1 x2 x3 x4 x5 x6 x7 v0 v1 v2 v3 v4 v5 v6 v7
     go_wp2_with fail
     have hmi:=hmr
     have hri:=hrr
     have Hbi:=Hbr
     clear c0 c1
     have c1:=hmi.c1
     obtain⟨z0,z1,z2,z3,z4,z5,z6,z7,n0,n1,n2,n3,n4,n5,n6,n7⟩:=hmi.set.at2
     have H8:=hd (hmi.is.w8_2 n0 n1 n2 n3 n4 n5 n6 n7)
     obtain⟨y0,y1,y2,y3,y4,y5,y6,y7,x0,x1,x2,x3,x4,x5,x6,x7⟩:=hri.at0
     obtain⟨v0,v1,v2,v3,v4,v5,v6,v7⟩:=hri.free0
     go_region_held3 (fun w'=>w'.cell? ⟨B+1,1,none⟩=some (.int .i64 p)/\w'.cell? ⟨B+1,2,none⟩=some (.int .u32 z0)/\w'.cell? ⟨B+1,3,none⟩=some (.int .u32 z1)/\w'.cell? ⟨B+1,4,none⟩=some (.int .u32 z2)/\w'.cell? ⟨B+1,5,none⟩=some (.int .u32 z3)/\w'.cell? ⟨B+1,6,none⟩=some (.int .u32 z4)/\w'.cell? ⟨B+1,7,none⟩=some (.int .u32 z5)/\w'.cell? ⟨B+1,8,none⟩=some (.int .u32 z6)/\w'.cell? ⟨B+1,9,none⟩=some (.int .u32 z7)) (go_keep) (fail)
     go_wp2
     refine bodyPost_ret (v:= .tuple #[.agg #[.int .u32 z0,.int .u32 z1,.int .u32 z2,.int .u32 z3,.int .u32 z4,.int .u32 z5,.int .u32 z6,.int .u32 z7],.int .i64 ((p:Int)+1),.int .i64 0]) (by simp[results,Tryz.results62,go_sem,x0,x1,x2,x3,x4,x5,x6,x7]) rfl ⟨z0,z1,z2,z3,z4,z5,z6,z7,?_,?_,?_⟩
     ·rw[Hz.out.1];rfl
     ·intro _;rw[Hz.out.2];exact H8.out
     ·rw[HB.out];exact(below8 Hbi.out _ _ _ _ _ _ _ _).drew
    ·have hcf:((ch s.data.toList p==93)&&decide (start+1<p))=false:=by
      rw[<-hcg.out]
      by_cases h1:s[p].toNat=93
      ·have:¬start+1<p:=fun h=>h93 ⟨by omega,h⟩
       simp[this]
      ·simp[h1]
     have h3:((s[p].toNat:Int)==93)=true->decide (((start:Int)+1)<(p:Int))=false:=by
      intro h
      simp at h
      simp
      have:¬start+1<p:=fun h'=>h93 ⟨by omega,h'⟩
      omega
     obtain⟨e0,p1,b1,hms⟩:∃e0 p1 b1,mstep s.data.toList p bc=(e0,p1,b1):=⟨_,_,_,rfl⟩
     have hbd:=mstep_bd (by rw[hl.out];exact hlt) hms
     have Hms:=hd hms
     have Hbd:=hd hbd
     rw[hl.out]at hbd
     obtain⟨f,rfl⟩:∃f,gk=f+1:=⟨gk-1,by omega⟩
     by_cases he:e0=0
     ·subst he
      have HG':Hid (brkGo s.data.toList start (start+1) f p1 b1=brk s.data.toList start/\brkS s.data.toList (start+1) f p1 b1 (mset s.data.toList p bc F)=brkS s.data.toList (start+1) 61 (start+1) false noS):=hd ⟨(brkGo_more (by rw[hl.out];exact hlt) hcf Hms.out).symm.trans HG.out.1,(brkS_more (by rw[hl.out];exact hlt) hcf Hms.out).symm.trans HG.out.2⟩
      have hq:p<p1:=hbd.2.2.2.1 rfl
      have hq2:p1<=s.size:=hbd.2.1
      clear hms hbd hcf h93 x0 x1 x2 x3 x4 x5 x6 x7 v0 v1 v2 v3 v4 v5 v6 v7
      cases h93b:((s[p].toNat:Int)==93)
      ·go_wp2_with (go_at_call 82;refine(mstep_any (B+1) s p bc (s[p].toNat) 0 p1 b1 _ (by exact hmr) (by exact hnr) hs hlt hcg.out.symm Hms.out).mono ?_;rintro e w2 ⟨rfl,hm2,ho2⟩)
       go_roundg f
       case measure=>omega
       case rel=>exact⟨p1,b1,mset s.data.toList p bc F,hm2,hrr.only ho2 (by omega),hnr.only ho2 (by omega),hd (Hbr.out.trans (ho2.below (by omega))),by omega,by omega,by omega,HG'⟩
      ·have h3':=h3 h93b
       clear h3
       go_wp2_with (go_at_call 82;refine(mstep_any (B+1) s p bc (s[p].toNat) 0 p1 b1 _ (by exact hmr) (by exact hnr) hs hlt hcg.out.symm Hms.out).mono ?_;rintro e w2 ⟨rfl,hm2,ho2⟩)
       go_roundg f
       case measure=>omega
       case rel=>exact⟨p1,b1,mset s.data.toList p bc F,hm2,hrr.only ho2 (by omega),hnr.only ho2 (by omega),hd (Hbr.out.trans (ho2.below (by omega))),by omega,by omega,by omega,HG'⟩
     ·have Hz:Hid (brk s.data.toList start=(e0,p1)):=hd (HG.out.1.symm.trans (brkGo_err (by rw[hl.out];exact hlt) hcf Hms.out he))
      have hen:((e0:Int) !=0)=true:=by simp;omega
      have He:=hd he
      clear hms hbd hcf h93 he x0 x1 x2 x3 x4 x5 x6 x7 v0 v1 v2 v3 v4 v5 v6 v7
      cases h93b:((s[p].toNat:Int)==93)
      all_goals
       first|have h3':=h3 h93b|skip
       clear h3
       go_wp2_with (go_at_call 82;refine(mstep_any (B+1) s p bc (s[p].toNat) e0 p1 b1 _ (by exact hmr) (by exact hnr) hs hlt hcg.out.symm Hms.out).mono ?_;rintro e w2 ⟨rfl,hm2,ho2⟩)
       have hri:SetAt w2 B 0:=hrr.only ho2 (by omega)
       have Hbi:Hid (Below B w w2):=hd (Hbr.out.trans (ho2.below (by omega)))
       clear ho2 c0 c1
       have c1:=hm2.c1
       obtain⟨y0,y1,y2,y3,y4,y5,y6,y7,x0,x1,x2,x3,x4,x5,x6,x7⟩:=hri.at0
       obtain⟨v0,v1,v2,v3,v4,v5,v6,v7⟩:=hri.free0
       go_region_held3 (fun w'=>w'.cell? ⟨B+1,1,none⟩=some (.int .i64 p1)) (go_keep) (fail)
       go_wp2
       refine bodyPost_ret (v:= .tuple #[.agg #[.int .u32 0,.int .u32 0,.int .u32 0,.int .u32 0,.int .u32 0,.int .u32 0,.int .u32 0,.int .u32 0],.int .i64 p1,.int .i64 e0]) (by simp[results,Tryz.results62,go_sem,x0,x1,x2,x3,x4,x5,x6,x7]) rfl ⟨0,0,0,0,0,0,0,0,?_,?_,?_⟩
       ·rw[Hz.out]
       ·intro h;rw[Hz.out]at h;exact absurd h He.out
       ·rw[HB.out];exact(below8 Hbi.out _ _ _ _ _ _ _ _).drew
   ·have Hz:Hid (brk s.data.toList start=(4,start)):=hd (HG.out.1.symm.trans (brkGo_out (by rw[len_data];exact hlt)))
    go_wp2
    refine bodyPost_ret (v:= .tuple #[.agg #[.int .u32 0,.int .u32 0,.int .u32 0,.int .u32 0,.int .u32 0,.int .u32 0,.int .u32 0,.int .u32 0],.int .i64 start,.int .i64 4]) (by simp[results,Tryz.results62,go_sem,x0,x1,x2,x3,x4,x5,x6,x7]) rfl ⟨0,0,0,0,0,0,0,0,?_,?_,?_⟩
    ·rw[Hz.out];rfl
    ·intro h;rw[Hz.out]at h;simp at h
    ·rw[HB.out];exact below8 Hbr.out _ _ _ _ _ _ _ _
 ·have hfirst:brkFirst s.data.toList start=start+2:=by unfold brkFirst;rw[hsw];rfl
  have Hbrk:Hid (brk s.data.toList start=brkGo s.data.toList start (start+2) 61 (start+2) false):=by unfold brk;rw[hfirst];exact hd rfl
  have Hfirst:=hd hfirst
  have Hsw:=hd hsw
  clear hfirst
  go_enter Tryz.func62,Tryz.ntmps62
  go_wp2_with (go_at_call 64;refine(hasAt_b s _ _ (start+1) [94] true _ hsw (by omega) rfl (by omega) (by decide) (by decide) (by omega)).mono ?_;rintro e w' ⟨rfl,rfl⟩)
  have hst0:=brk_start0 w s ((start:Int)+1+1) (start+2) (by omega) hn
  generalize (w.alloc _).alloc _=W0 at hst0 ⊢
  obtain⟨hm0,hr0,hn0,hb0,hz0⟩:=hst0
  generalize hB:w.heap.size=B at hm0 hr0 hb0 hz0 ⊢
  have hGB:4<B:=by rw[<-hB];exact hn.lt
  have HB:=hd hB
  clear hB
  go_loopg [10,11] 61 (fun k _ _ wr=>∃(p:Nat) (bc:Bool) (F:Nat->Bool),Mem wr (B+1) s p bc F/\SetAt wr B 0/\NamesIn wr/\Hid (Below B w wr)/\start<p/\p<=s.size/\s.size<p+k/\Hid (brkGo s.data.toList start (start+2) k p bc=brk s.data.toList start/\brkS s.data.toList (start+2) k p bc F=brkS s.data.toList (start+2) 61 (start+2) false noS))
  case atStart=>exact⟨start+2,false,noS,hm0,hr0,hn0,hd hb0,by omega,by have h:=hsw;rw[sw1]at h;simp at h;omega,by omega,hd ⟨Hbrk.out.symm,rfl⟩⟩
  case round=>
   obtain⟨p,bc,F,hmr,hrr,hnr,Hbr,hp0,hp1,hpk,HG⟩:=hrel
   have w1':=wrapI ((p:Int)+1) (by omega) (by omega)
   have c0:=hmr.c0
   have c1:=hmr.c1
   obtain⟨y0,y1,y2,y3,y4,y5,y6,y7,x0,x1,x2,x3,x4,x5,x6,x7⟩:=hrr.at0
   obtain⟨v0,v1,v2,v3,v4,v5,v6,v7⟩:=hrr.free0
   by_cases hlt:p<s.size
   ·have hcg:=hd (ch_get s p hlt)
    have hl:=hd (len_data s)
    by_cases h93:(s[p].toNat:Int)=93/\start+2<p
    ·obtain⟨ha,hb⟩:=h93
     have hbI:((start:Int)+2)<(p:Int):=by omega
     have Hz:Hid (brk s.data.toList start=(0,p+1)/\brkSet s.data.toList start=invS F):=by
      obtain⟨f,rfl⟩:∃f,gk=f+1:=⟨gk-1,by omega⟩
      refine⟨HG.out.1.symm.trans (brkGo_shut (by rw[hl.out];exact hlt) (by rw[<-hcg.out];omega) hb),?_⟩
      unfold brkSet
      rw[if_pos Hsw.out,Hfirst.out,<-HG.out.2,brkS_shut (by rw[hl.out];exact hlt) (by rw[<-hcg.out];omega) hb]
     clear x0 x1 x2 x3 x4 x5 x6 x7 v0 v1 v2 v3 v4 v5 v6 v7
     go_wp2_with fail
     refine(invert_any (B+1) 2 _ (by exact hmr.set)).mono ?_
     rintro e wi ⟨rfl,hsi,hoi⟩
     have hmi:Mem wi (B+1) s p bc (invS F):=hmr.only hoi hsi.1 (hsi.2 _ hmr.is)
     have hri:SetAt wi B 0:=hrr.only hoi (by omega)
     have Hbi:Hid (Below B w wi):=hd (Hbr.out.trans (hoi.below (by omega)))
     clear hoi
     go_wp2_with fail
     clear c0 c1
     have c1:=hmi.c1
     obtain⟨z0,z1,z2,z3,z4,z5,z6,z7,n0,n1,n2,n3,n4,n5,n6,n7⟩:=hmi.set.at2
     have H8:=hd (hmi.is.w8_2 n0 n1 n2 n3 n4 n5 n6 n7)
     obtain⟨y0,y1,y2,y3,y4,y5,y6,y7,x0,x1,x2,x3,x4,x5,x6,x7⟩:=hri.at0
     obtain⟨v0,v1,v2,v3,v4,v5,v6,v7⟩:=hri.free0
     go_region_held3 (fun w'=>w'.cell? ⟨B+1,1,none⟩=some (.int .i64 p)/\w'.cell? ⟨B+1,2,none⟩=some (.int .u32 z0)/\w'.cell? ⟨B+1,3,none⟩=some (.int .u32 z1)/\w'.cell? ⟨B+1,4,none⟩=some (.int .u32 z2)/\w'.cell? ⟨B+1,5,none⟩=some (.int .u32 z3)/\w'.cell? ⟨B+1,6,none⟩=some (.int .u32 z4)/\w'.cell? ⟨B+1,7,none⟩=some (.int .u32 z5)/\w'.cell? ⟨B+1,8,none⟩=some (.int .u32 z6)/\w'.cell? ⟨B+1,9,none⟩=some (.int .u32 z7)) (go_keep) (fail)
     go_wp2
     refine bodyPost_ret (v:= .tuple #[.agg #[.int .u32 z0,.int .u32 z1,.int .u32 z2,.int .u32 z3,.int .u32 z4,.int .u32 z5,.int .u32 z6,.int .u32 z7],.int .i64 ((p:Int)+1),.int .i64 0]) (by simp[results,Tryz.results62,go_sem,x0,x1,x2,x3,x4,x5,x6,x7]) rfl ⟨z0,z1,z2,z3,z4,z5,z6,z7,?_,?_,?_⟩
     ·rw[Hz.out.1];rfl
     ·intro _;rw[Hz.out.2];exact H8.out
     ·rw[HB.out];exact(below8 Hbi.out _ _ _ _ _ _ _ _).drew
    ·have hcf:((ch s.data.toList p==93)&&decide (start+2<p))=false:=by
      rw[<-hcg.out]
      by_cases h1:s[p].toNat=93
      ·have:¬start+2<p:=fun h=>h93 ⟨by omega,h⟩
       simp[this]
      ·simp[h1]
     have h3:((s[p].toNat:Int)==93)=true->decide (((start:Int)+1+1)<(p:Int))=false:=by
      intro h
      simp at h
      simp
      have:¬start+2<p:=fun h'=>h93 ⟨by omega,h'⟩
      omega
     obtain⟨e0,p1,b1,hms⟩:∃e0 p1 b1,mstep s.data.toList p bc=(e0,p1,b1):=⟨_,_,_,rfl⟩
     have hbd:=mstep_bd (by rw[hl.out];exact hlt) hms
     have Hms:=hd hms
     have Hbd:=hd hbd
     rw[hl.out]at hbd
     obtain⟨f,rfl⟩:∃f,gk=f+1:=⟨gk-1,by omega⟩
     by_cases he:e0=0
     ·subst he
      have HG':Hid (brkGo s.data.toList start (start+2) f p1 b1=brk s.data.toList start/\brkS s.data.toList (start+2) f p1 b1 (mset s.data.toList p bc F)=brkS s.data.toList (start+2) 61 (start+2) false noS):=hd ⟨(brkGo_more (by rw[hl.out];exact hlt) hcf Hms.out).symm.trans HG.out.1,(brkS_more (by rw[hl.out];exact hlt) hcf Hms.out).symm.trans HG.out.2⟩
      have hq:p<p1:=hbd.2.2.2.1 rfl
      have hq2:p1<=s.size:=hbd.2.1
      clear hms hbd hcf h93 x0 x1 x2 x3 x4 x5 x6 x7 v0 v1 v2 v3 v4 v5 v6 v7
      cases h93b:((s[p].toNat:Int)==93)
      ·go_wp2_with (go_at_call 82;refine(mstep_any (B+1) s p bc (s[p].toNat) 0 p1 b1 _ (by exact hmr) (by exact hnr) hs hlt hcg.out.symm Hms.out).mono ?_;rintro e w2 ⟨rfl,hm2,ho2⟩)
       go_roundg f
       case measure=>omega
       case rel=>exact⟨p1,b1,mset s.data.toList p bc F,hm2,hrr.only ho2 (by omega),hnr.only ho2 (by omega),hd (Hbr.out.trans (ho2.below (by omega))),by omega,by omega,by omega,HG'⟩
      ·have h3':=h3 h93b
       clear h3
       go_wp2_with (go_at_call 82;refine(mstep_any (B+1) s p bc (s[p].toNat) 0 p1 b1 _ (by exact hmr) (by exact hnr) hs hlt hcg.out.symm Hms.out).mono ?_;rintro e w2 ⟨rfl,hm2,ho2⟩)
       go_roundg f
       case measure=>omega
       case rel=>exact⟨p1,b1,mset s.data.toList p bc F,hm2,hrr.only ho2 (by omega),hnr.only ho2 (by omega),hd (Hbr.out.trans (ho2.below (by omega))),by omega,by omega,by omega,HG'⟩
     ·have Hz:Hid (brk s.data.toList start=(e0,p1)):=hd (HG.out.1.symm.trans (brkGo_err (by rw[hl.out];exact hlt) hcf Hms.out he))
      have hen:((e0:Int) !=0)=true:=by simp;omega
      have He:=hd he
      clear hms hbd hcf h93 he x0 x1 x2 x3 x4 x5 x6 x7 v0 v1 v2 v3 v4 v5 v6 v7
      cases h93b:((s[p].toNat:Int)==93)
      all_goals
       first|have h3':=h3 h93b|skip
       clear h3
       go_wp2_with (go_at_call 82;refine(mstep_any (B+1) s p bc (s[p].toNat) e0 p1 b1 _ (by exact hmr) (by exact hnr) hs hlt hcg.out.symm Hms.out).mono ?_;rintro e w2 ⟨rfl,hm2,ho2⟩)
       have hri:SetAt w2 B 0:=hrr.only ho2 (by omega)
       have Hbi:Hid (Below B w w2):=hd (Hbr.out.trans (ho2.below (by omega)))
       clear ho2 c0 c1
       have c1:=hm2.c1
       obtain⟨y0,y1,y2,y3,y4,y5,y6,y7,x0,x1,x2,x3,x4,x5,x6,x7⟩:=hri.at0
       obtain⟨v0,v1,v2,v3,v4,v5,v6,v7⟩:=hri.free0
       go_region_held3 (fun w'=>w'.cell? ⟨B+1,1,none⟩=some (.int .i64 p1)) (go_keep) (fail)
       go_wp2
       refine bodyPost_ret (v:= .tuple #[.agg #[.int .u32 0,.int .u32 0,.int .u32 0,.int .u32 0,.int .u32 0,.int .u32 0,.int .u32 0,.int .u32 0],.int .i64 p1,.int .i64 e0]) (by simp[results,Tryz.results62,go_sem,x0,x1,x2,x3,x4,x5,x6,x7]) rfl ⟨0,0,0,0,0,0,0,0,?_,?_,?_⟩
       ·rw[Hz.out]
       ·intro h;rw[Hz.out]at h;exact absurd h He.out
       ·rw[HB.out];exact(below8 Hbi.out _ _ _ _ _ _ _ _).drew
   ·have Hz:Hid (brk s.data.toList start=(4,start)):=hd (HG.out.1.symm.trans (brkGo_out (by rw[len_data];exact hlt)))
    go_wp2
    refine bodyPost_ret (v:= .tuple #[.agg #[.int .u32 0,.int .u32 0,.int .u32 0,.int .u32 0,.int .u32 0,.int .u32 0,.int .u32 0,.int .u32 0],.int .i64 start,.int .i64 4]) (by simp[results,Tryz.results62,go_sem,x0,x1,x2,x3,x4,x5,x6,x7]) rfl ⟨0,0,0,0,0,0,0,0,?_,?_,?_⟩
    ·rw[Hz.out];rfl
    ·intro h;rw[Hz.out]at h;simp at h
    ·rw[HB.out];exact below8 Hbr.out _ _ _ _ _ _ _ _
end Go.Proofs.YtldiemjlpnachaaGreatDoor

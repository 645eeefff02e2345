import Derived.Test.YtldiemjlpnachaaGreatDoorRRow2
set_option maxHeartbeats 3200000
set_option maxRecDepth 100000
namespace Go.Proofs.YtldiemjlpnachaaGreatDoor
open Go.RowKit
def RPat(w:World)(g:Nat)(l:List UInt8):Prop:=∃(H:Fins) (d:Nat) (ao:Option Addr) (rn rc:Nat) (its:List It),RFin w H/\RRow (RItemOk H d) H ao rn its/\w.cell? ⟨g,0,none⟩=some (.slice ao rn rc)/\
 (∀i,i<10->w.cell? ⟨g,2+i,none⟩=some (.bool ((refT0 l).contains i)))/\its.map (·.3)=(itsT l).map (·.3)
def ReadPost(w w':World)(l:List UInt8)(e:Ending):Prop:=
 Below w.heap.size w w'/\((parseT l).1=0/\(∃g,w.heap.size<=g/\e= .returned (.tuple #[.pointer (some ⟨g,0,none⟩),.int .i64 0,.int .i64 0])/\w'.cell? ⟨g,1,none⟩=some (.int .i64 (parseT l).2.2)/\RPat w' g l)\/
  (parseT l).1≠0/\e= .returned (.tuple #[.pointer none,.int .i64 (parseT l).1,.int .i64 (parseT l).2.1]))
def ClsW(w:World):Prop:=∃c t fr,w.heap[1]?=some (.cells c t fr)/\∀i,i<12->c[i]?=clsArr[i]?
theorem read_long(s:ByteArray)(w:World)(hs:60<s.size)(_hm:s.size<=maxLen):
  Calls Tryz.prog 10 #[.string s] w fun e w'=>e= .returned (.tuple #[.pointer none,.int .i64 1,.int .i64 0])/\w'=w:=by
 have h1:(60:Int)<s.size:=by omega
 go_enter Tryz.func10,Tryz.ntmps10
 go_wp2
 go_ret3
 exact⟨rfl,rfl⟩
theorem Rkp.belowO{a w:World}{R P base:Nat}{vo v:Value}(h:Rkp a w R P vo v)(hR:base<=R)(hP:base<=P)(ho:∀k,vo.ownBlock=some k->base<=k)(hb:base<=a.heap.size):Below base a w:=
 ⟨h.os,h.tape,h.output,h.size,fun k hk=>h.block k (by omega) (by omega) (by omega) (fun e=>by have:=ho k e;omega)⟩
def H0(c:Array Value):Fins:=fun g=>if g=1 then some c else none
theorem rg0{w:World}{c:Array Value}{t:TypeId}{fr:Nat×Nat}(s:ByteArray)(hc:w.heap[1]?=some (.cells c t fr)):
  Rg ((w.alloc (.cells #[.slice none 0 0,.int .i64 0,.bool false,.bool false,.bool false,.bool false,.bool false,.bool false,.bool false,.bool false,.bool false,.bool false] 64)).alloc (.cells #[.string s,.pointer (some ⟨w.heap.size,0,none⟩),.bool false,.bool false,.bool false,.bool false,.bool false,.bool false,.bool false,.bool false,.bool false,.bool false,.slice none 0 0,.int .i64 0,.int .i64 0] 66)) (w.heap.size+1) w.heap.size s (H0 c) (.slice none 0 0) τ0:=by
 have hlt:1<w.heap.size:=by
  rcases Nat.lt_or_ge 1 w.heap.size with h|h
  ·exact h
  ·rw[Array.getElem?_eq_none h]at hc;cases hc
 have ten:∀i,i<10->i=0\/i=1\/i=2\/i=3\/i=4\/i=5\/i=6\/i=7\/i=8\/i=9:=fun i hi=>by omega
 refine⟨by simp,by simp,fun i hi=>?_,by simp,by simp[τ0],by simp[τ0],fun i=>by simp,⟨.slice none 0 0,by simp⟩,by simp[τ0],fun i hi=>?_,fun i=>by simp,World.ownsRow_nil _ _ _ _,by omega,by simp[Value.ownBlock],by simp[Value.ownBlock],fun g arr hg=>?_,fun g arr hg=>?_⟩
 ·rcases ten i hi with rfl|rfl|rfl|rfl|rfl|rfl|rfl|rfl|rfl|rfl<;>simp[τ0]
 ·rcases ten i hi with rfl|rfl|rfl|rfl|rfl|rfl|rfl|rfl|rfl|rfl<;>simp[τ0]
 ·unfold H0 at hg
  split at hg
  ·rename_i e
   subst e
   cases hg
   exact⟨.inr ⟨t,rfl⟩,fr,by rw[Below.heap_alloc _ _ _ (Nat.lt_of_lt_of_le hlt (by simp)),Below.heap_alloc _ _ _ hlt];exact hc⟩
  ·cases hg
 ·unfold H0 at hg
  split at hg
  ·rename_i e
   subst e
   exact⟨by omega,by omega,by simp[Value.ownBlock]⟩
  ·cases hg
theorem below_iter{C:Nat}{w wr:World}{s:ByteArray}(h:Below C w wr)(p:Nat):Below C w (wr.iterAt C s p):=
 ⟨h.os,h.tape,h.output,by simp[World.iterAt];exact h.size,fun k hk=>(Lib.iterAt_other _ _ _ _ _ (by omega)).trans (h.block k hk)⟩
theorem read_err{w w':World}{l:List UInt8}{e p:Nat}(hb:Below w.heap.size w w')(hp:parseT l=(e,p,0))(he:e≠0):ReadPost w w' l (.returned (.tuple #[.pointer none,.int .i64 e,.int .i64 p])):=by
 refine⟨hb,.inr ?_⟩
 rw[hp]
 exact⟨he,rfl⟩
theorem read_any(s:ByteArray)(w:World)(hc:ClsW w)(hs:s.size<=60):
  Calls Tryz.prog 10 #[.string s] w fun e w'=>ReadPost w w' s.data.toList e:=by
 have Hc:=hd hc
 have h1:¬(60:Int)<s.size:=by omega
 have Hl:=hd (len_data s)
 clear hc
 go_enter Tryz.func10,Tryz.ntmps10
 go_wp2
 have hit0:=World.iter_heap w s 0
 have Hb0:Hid (Below w.heap.size w (w.iter s 0)):=hd ((Below.refl w.heap.size w).alloc (Nat.le_refl _) _)
 generalize w.iter s 0=W at*
 obtain⟨C,hC⟩:∃C,w.heap.size=C:=⟨_,rfl⟩
 have HC:=hd hC
 rw[hC]at hit0 Hb0
 simp only[hC]
 clear hC
 go_loopg [5] 62 (fun f _ wx=>∃pos:Nat,wx.heap[C]?=some (.stringIter s pos)/\Hid (Below C w wx)/\pos<=s.size/\s.size<pos+f/\Hid (∀j,j<pos->ch s.data.toList j≠10))
 case atStart=>exact⟨0,hit0,Hb0,by omega,by omega,hd (fun j hj=>by omega)⟩
 case round=>
  obtain⟨pos,hit,Hbx,hpt,hptf,Hno⟩:=hrel
  by_cases hlt:pos<s.size
  ·have hnx:∀ty,(Instr.next (.pointer (some ⟨C,0,none⟩)) true ty).run Tryz.prog _=_:=fun ty=>Lib.run_next_any_at _ C s pos ty hit hlt
   have hp':(pos:Int)<s.size:=by omega
   have hp0:(0:Int)<=(pos:Int):=by omega
   have Hnl:=hd (fun h10=>no_lf Hno.out hlt h10)
   have Hb3:=hd (below_iter (s:=s) Hbx.out (pos+(Utf8.decode s pos).2))
   have hit2:=Lib.iterAt_heap _ C s pos (pos+(Utf8.decode s pos).2) hit
   clear hit Hbx
   generalize World.iterAt _ C s (pos+(Utf8.decode s pos).2)=W2 at*
   generalize (Utf8.decode s pos).2=nx at*
   generalize (Utf8.decode s pos).1=ru at*
   by_cases h10:ch s.data.toList pos=10
   ·have hx:(s[pos].toNat:Int)=10:=ch_int hlt h10
    have HF:Hid (ReadPost w W2 s.data.toList (.returned (.tuple #[.pointer none,.int .i64 2,.int .i64 pos]))):=by
     have hb:=Hb3.out
     rw[<-HC.out]at hb
     refine hd (read_err hb ?_ (by decide))
     unfold parseT
     exact parseR_lf (by rw[len_data];omega) (lf_some (by rw[len_data];exact hlt) Hno.out h10)
    clear h10
    go_wp2
    go_ret3
    exact HF.out
   ·have Hn:=hd (Hnl.out h10)
    have hx:((s[pos].toNat:Int)==10)=false:=by have:=ch_ne hlt h10;simpa using this
    clear h10
    obtain⟨g,rfl⟩:∃g,gk=g+1:=⟨gk-1,by omega⟩
    go_wp2
    go_roundg g
    case measure=>omega
    case rel=>exact⟨pos+nx,hit2,Hb3,Hn.out.2.2,by have:=Hn.out.2.1;omega,hd Hn.out.1⟩
  ·have hnx:∀ty,(Instr.next (.pointer (some ⟨C,0,none⟩)) true ty).run Tryz.prog _=_:=fun ty=>Lib.run_next_end_at _ C s pos ty hit hlt
   have Hlf:=hd (lf_none (fun i hi=>Hno.out i (by rw[Hl.out]at hi;omega)))
   clear hit
   go_wp2_with fail
   obtain⟨c,t,fr,hc1,hc2⟩:=Hc.out
   have hclt:1<C:=by
    rw[<-HC.out]
    rcases Nat.lt_or_ge 1 w.heap.size with h|h
    ·exact h
    ·rw[Array.getElem?_eq_none h]at hc1;cases hc1
   have hCw:C<=wr.heap.size:=by have:=Hbx.out.size;rw[HC.out]at this;exact this
   refine(row_any s 61 _ _ _ (H0 c) _ τ0 st0 _ (rg0 s ((Hbx.out.block _ hclt).trans hc1)) sim0 ⟨c,by simp[H0],hc2⟩ hs (Nat.zero_le _) rfl (by show s.size<0+61;omega) rfl).mono ?_
   rintro e w7 ⟨ao,rc,j,bs,its,τ7,H7,v7,rfl,hr7,hk7,hh7,hl7,hn7,hj7,hj8,hsum,hlen,hres⟩
   have HB7:Hid (Below C w w7):=hd (((Hbx.out.alloc hCw _).alloc (by simp;omega) _).trans (hk7.below (by omega) (by omega) (by simp;omega)))
   have Hown7:Hid (∀k,v7.ownBlock=some k->C<=k):=hd (fun k hk=>by
    rcases hk7.own k hk with e|e
    ·simp[Value.ownBlock]at e
    ·simp at e;omega)
   obtain⟨H8,d,hr8,hm8,hx8,hrow8⟩:=hl7.finish hr7 (by omega)
   have HRC:=hd (rd_cases (by rw[len_data];exact hs) Hlf.out (by rw[len_data];exact hj8) hres)
   have Hsz:=hd (fun w' hF=>size_any H8 d (ritemSize_any H8 d) w' ao its.length rc its hF hrow8)
   have Hpat:Hid (∃its':List It,RRow (RItemOk H8 d) H8 ao its.length its'/\its'.map (·.3)=its.map (·.3)):=hd ⟨its,hrow8,rfl⟩
   obtain⟨P,hP⟩:∃P,wr.heap.size=P:=⟨_,rfl⟩
   rw[hP]at hr8 hCw
   simp only[hP]
   have hCR:C<=P+1:=by omega
   generalize P+1=R at*
   have HCw:Hid (C<=w7.heap.size):=hd (by have:=hr8.ltP;omega)
   have Hr8:=hd hr8
   clear hP hr7 hk7 hh7 hl7 hn7 hj7 hsum hlen hres hm8 hx8 hrow8 hr8 Hbx hc1 hc2 hclt
   generalize 1+sumSz (its.map (·.2))=S at*
   generalize its.map (·.3)=ts at*
   generalize its.length=ln at*
   clear its bs hnx hit0 Hb0 Hno hlt hpt hptf Hlf
   have c12:=Hr8.out.co
   have c13:=Hr8.out.ce
   have c14:=Hr8.out.ca
   rcases HRC.out with⟨h0,hj,ho,hpt⟩|⟨h0,hj,ho,hS,hpt⟩|⟨h0,hj,ho,hS,hpt,hts,hus⟩|⟨h0,hj,os,x,ho,hpt⟩|⟨hne,hpt⟩
   ·rw[Hl.out]at hj
    have hj':(j:Int)<s.size:=by omega
    rw[h0]at c13
    obtain⟨oa,oc,rfl⟩:=Hr8.out.shape
    rw[ho]at Hr8 c12 Hown7
    simp only[List.length_nil]at Hr8 c12 Hown7
    have Hpt:=hd hpt
    clear hpt ho HRC
    go_wp2_with fail
    refine(wrong_any Hr8.out 8 j _ rfl h0).mono ?_
    rintro e w9 ⟨rfl,hr9,hk9⟩
    have c12b:=hr9.co
    have c13b:=hr9.ce
    have c14b:=hr9.ca
    have Hr9:=hd hr9
    have HF:Hid (ReadPost w w9.drew s.data.toList (.returned (.tuple #[.pointer none,.int .i64 8,.int .i64 j]))):=by
     have hb:=(HB7.out.trans (hk9.belowO hCR hCw Hown7.out HCw.out)).drew
     rw[<-HC.out]at hb
     exact hd (read_err hb Hpt.out (by decide))
    clear hr9 hk9 c12 c13 c14
    go_wp2_with fail
    refine(Hsz.out _ Hr9.out.fin).mono ?_
    rintro e w' ⟨rfl,rfl⟩
    by_cases hS:200<S
    ·go_wp2_with fail
     refine(wrong_no Hr9.out _ _ (fun e=>by cases e)).mono ?_
     rintro e w' ⟨rfl,rfl⟩
     go_wp2_with fail
     go_region
     all_goals go_wp2
     all_goals go_ret3
     all_goals exact HF.out
    ·go_wp2_with fail
     go_region
     all_goals go_wp2
     all_goals go_ret3
     all_goals exact HF.out
   ·rw[Hl.out]at hj
    have hj':¬(j:Int)<s.size:=by omega
    rw[h0]at c13
    obtain⟨oa,oc,rfl⟩:=Hr8.out.shape
    rw[ho]at Hr8 c12 Hown7
    simp only[List.length_nil]at Hr8 c12 Hown7
    have Hpt:=hd hpt
    clear hpt ho HRC hj
    go_wp2_with fail
    refine(Hsz.out _ Hr8.out.fin).mono ?_
    rintro e w' ⟨rfl,rfl⟩
    go_wp2_with fail
    refine(wrong_any Hr8.out 12 0 _ rfl h0).mono ?_
    rintro e w9 ⟨rfl,hr9,hk9⟩
    have c12b:=hr9.co
    have c13b:=hr9.ce
    have c14b:=hr9.ca
    have Hr9:=hd hr9
    have HF:Hid (ReadPost w w9.drew s.data.toList (.returned (.tuple #[.pointer none,.int .i64 12,.int .i64 0]))):=by
     have hb:=(HB7.out.trans (hk9.belowO hCR hCw Hown7.out HCw.out)).drew
     rw[<-HC.out]at hb
     exact hd (read_err hb Hpt.out (by decide))
    clear hr9 hk9 c12 c13 c14
    go_wp2_with fail
    go_region
    all_goals go_wp2
    all_goals go_ret3
    all_goals exact HF.out
   ·rw[Hl.out]at hj
    have hj':¬(j:Int)<s.size:=by omega
    rw[h0]at c13
    obtain⟨oa,oc,rfl⟩:=Hr8.out.shape
    rw[ho]at Hr8 c12 Hown7
    simp only[List.length_nil]at Hr8 c12 Hown7
    have Hpt:=hd hpt
    have c1:=Hr8.out.c1
    obtain⟨v0,p0⟩:=Hr8.out.p0
    have fP:=Hr8.out.fP
    have neRP:=Hr8.out.ne
    have HF:Hid (ReadPost w (w7.setCell ⟨P,0,none⟩ (.slice ao ln rc)) s.data.toList (.returned (.tuple #[.pointer (some ⟨P,0,none⟩),.int .i64 0,.int .i64 0]))):=by
     have hb:=HB7.out.setCell (p:=⟨P,0,none⟩) hCw (.slice ao ln rc)
     have hg:=Hr8.out.pg
     rw[<-HC.out]at hb
     refine hd ⟨hb,.inl ?_⟩
     rw[Hpt.out]
     refine⟨rfl,P,by rw[HC.out];exact hCw,rfl,(World.cell?_setCell_other _ _ _ _ (by simp)).trans hg,?_⟩
     obtain⟨its',r1,r2⟩:=Hpat.out
     refine⟨H8,d,ao,ln,rc,its',fun q arr hq=>?_,r1,World.cell?_setCell_same _ _ _ p0,fun i hi=>?_,r2.trans hts⟩
     ·obtain⟨t,fr,ht⟩:=Hr8.out.fin q arr hq
      exact⟨t,fr,(Below.heap_setCell _ _ _ _ (Hr8.out.sep q arr hq).2.1).trans ht⟩
     ·rw[<-hus i hi]
      exact(World.cell?_setCell_other _ _ _ _ (by rintro e;injection e;omega)).trans (Hr8.out.pu i hi)
    clear hpt ho HRC hj hts hus Hpat
    go_wp2_with fail
    refine(Hsz.out _ Hr8.out.fin).mono ?_
    rintro e w' ⟨rfl,rfl⟩
    go_wp2_with fail
    go_ret3
    exact HF.out
   ·rw[Hl.out]at hj
    have hj':¬(j:Int)<s.size:=by omega
    rw[h0]at c13
    obtain⟨k,cap7,rfl⟩:∃k cap,v7= .slice (some ⟨k,0,none⟩) (os.length+1) cap:=by
     rcases Hr8.out.own.2 with⟨_,h0⟩|⟨k,cap,_,hv,_⟩
     ·rw[ho]at h0;simp at h0
     ·rw[ho]at hv;simp at hv;exact⟨k,cap,hv⟩
    have hown:=Hr8.out.own
    rw[ho]at hown
    simp only[List.length_append,List.length_singleton,List.map_append,List.map_singleton]at hown
    have ck:w7.cell? ⟨k,os.length,none⟩=some (.int .i64 x):=owns_cell hown os.length _ (by rw[List.getElem?_append_right (by simp)];simp)
    have hol:os.length+1<=9223372036854775807:=by
     have:=(owns_cells hown).choose_spec
     have h1:=this.2.2.1
     have h2:=this.2.2.2.1
     unfold maxLen at h2
     omega
    clear hown
    have Hpt:=hd hpt
    clear hpt ho HRC hj
    go_wp2_with fail
    refine(wrong_any Hr8.out 11 x _ rfl h0).mono ?_
    rintro e w9 ⟨rfl,hr9,hk9⟩
    have c12b:=hr9.co
    have c13b:=hr9.ce
    have c14b:=hr9.ca
    have Hr9:=hd hr9
    have HF:Hid (ReadPost w w9.drew s.data.toList (.returned (.tuple #[.pointer none,.int .i64 11,.int .i64 x]))):=by
     have hb:=(HB7.out.trans (hk9.belowO hCR hCw Hown7.out HCw.out)).drew
     rw[<-HC.out]at hb
     exact hd (read_err hb Hpt.out (by decide))
    clear hr9 hk9 c12 c13 c14
    go_wp2_with fail
    refine(Hsz.out _ Hr9.out.fin).mono ?_
    rintro e w' ⟨rfl,rfl⟩
    by_cases hS:200<S
    ·go_wp2_with fail
     refine(wrong_no Hr9.out _ _ (fun e=>by cases e)).mono ?_
     rintro e w' ⟨rfl,rfl⟩
     go_wp2_with fail
     go_region
     all_goals go_wp2
     all_goals go_ret3
     all_goals exact HF.out
    ·go_wp2_with fail
     go_region
     all_goals go_wp2
     all_goals go_ret3
     all_goals exact HF.out
   ·have Hpt:=hd hpt
    have hne2:((τ7.err:Int)==0)=false:=by simp;omega
    have hne3:((τ7.err:Int) !=0)=true:=by simp;omega
    have HF:Hid (ReadPost w w7.drew s.data.toList (.returned (.tuple #[.pointer none,.int .i64 τ7.err,.int .i64 τ7.pl]))):=by
     have hb:=HB7.out.drew
     rw[<-HC.out]at hb
     exact hd (read_err hb Hpt.out hne)
    clear hpt HRC
    rcases list_snoc τ7.opens with ho|⟨os,x,ho⟩
    ·obtain⟨oa,oc,rfl⟩:=Hr8.out.shape
     rw[ho]at Hr8 c12 Hown7
     simp only[List.length_nil]at Hr8 c12 Hown7
     clear ho
     go_wp2_with fail
     refine(Hsz.out _ Hr8.out.fin).mono ?_
     rintro e w' ⟨rfl,rfl⟩
     by_cases hS:200<S
     ·go_wp2_with fail
      refine(wrong_no Hr8.out _ _ hne).mono ?_
      rintro e w' ⟨rfl,rfl⟩
      go_wp2_with fail
      go_region
      all_goals go_wp2
      all_goals go_ret3
      all_goals exact HF.out
     ·go_wp2_with fail
      go_region
      all_goals go_wp2
      all_goals go_ret3
      all_goals exact HF.out
    ·obtain⟨k,cap7,rfl⟩:∃k cap,v7= .slice (some ⟨k,0,none⟩) (os.length+1) cap:=by
      rcases Hr8.out.own.2 with⟨_,h0⟩|⟨k,cap,_,hv,_⟩
      ·rw[ho]at h0;simp at h0
      ·rw[ho]at hv;simp at hv;exact⟨k,cap,hv⟩
     have hown:=Hr8.out.own
     rw[ho]at hown
     simp only[List.length_append,List.length_singleton,List.map_append,List.map_singleton]at hown
     have ck:w7.cell? ⟨k,os.length,none⟩=some (.int .i64 x):=owns_cell hown os.length _ (by rw[List.getElem?_append_right (by simp)];simp)
     have hol:os.length+1<=9223372036854775807:=by
      have:=(owns_cells hown).choose_spec
      have h1:=this.2.2.1
      have h2:=this.2.2.2.1
      unfold maxLen at h2
      omega
     clear hown
     clear ho
     go_wp2_with fail
     refine(wrong_no Hr8.out _ _ hne).mono ?_
     rintro e w' ⟨rfl,rfl⟩
     go_wp2_with fail
     refine(Hsz.out _ Hr8.out.fin).mono ?_
     rintro e w' ⟨rfl,rfl⟩
     by_cases hS:200<S
     ·go_wp2_with fail
      refine(wrong_no Hr8.out _ _ hne).mono ?_
      rintro e w' ⟨rfl,rfl⟩
      go_wp2_with fail
      go_region
      all_goals go_wp2
      all_goals go_ret3
      all_goals exact HF.out
     ·go_wp2_with fail
      go_region
      all_goals go_wp2
      all_goals go_ret3
      all_goals exact HF.out
theorem read_all(s:ByteArray)(w:World)(hc:ClsW w)(hm:s.size<=maxLen):
  Calls Tryz.prog 10 #[.string s] w fun e w'=>ReadPost w w' s.data.toList e:=by
 by_cases hs:s.size<=60
 ·exact read_any s w hc hs
 ·refine(read_long s w (by omega) hm).mono ?_
  rintro e w' ⟨rfl,rfl⟩
  exact read_err (Below.refl _ _) (parseT_long (by rw[len_data];omega)) (by decide)
end Go.Proofs.YtldiemjlpnachaaGreatDoor
namespace Go.Proofs.YtldiemjlpnachaaGreatDoor
open Go.RowKit
theorem ClsW.below{w w':World}(h:ClsW w)(hb:Below w.heap.size w w'):ClsW w':=by
 obtain⟨c,t,fr,h1,h2⟩:=h
 refine⟨c,t,fr,(hb.block _ ?_).trans h1,h2⟩
 rcases Nat.lt_or_ge 1 w.heap.size with h|h
 ·exact h
 ·rw[Array.getElem?_eq_none h]at h1;cases h1
end Go.Proofs.YtldiemjlpnachaaGreatDoor

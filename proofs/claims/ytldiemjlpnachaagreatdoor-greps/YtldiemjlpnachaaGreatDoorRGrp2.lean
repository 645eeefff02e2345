import Derived.Test.YtldiemjlpnachaaGreatDoorRRow
set_option maxHeartbeats 3200000
set_option maxRecDepth 100000
namespace Go.Proofs.YtldiemjlpnachaaGreatDoor
open Go.RowKit
theorem ItPost.drew{w w':World}{R P:Nat}{s:ByteArray}{H:Fins}{vo:Value}{τ':RSt}{b:Nat}{it:It}(h:ItPost w w' R P s H vo τ' b it):ItPost w w'.drew R P s H vo τ' b it:=by
 obtain⟨H',vo',h1,h2,h3⟩:=h
 exact⟨H',vo',h1.drew,h2.drew,h3⟩
theorem ItmPost.drew{w w':World}{r:Ending}{R P:Nat}{s:ByteArray}{H:Fins}{vo:Value}{σ:St}(h:ItmPost w w' r R P s H vo σ):ItmPost w w'.drew r R P s H vo σ:=by
 obtain⟨b,j,it,τ',h1,h2,h3⟩:=h
 exact⟨b,j,it,τ',h1,h2.drew,h3⟩
section
variable {w : World} {R P : Nat} {s : ByteArray} {H : Fins} {vo : Value} {τ : RSt} {σ : St}
theorem group_nine(h:Rg w R P s H vo τ)(hS:Sim σ τ)(_hs:s.size<=60)(hp:σ.pos+1<s.size)(hx:ch s.data.toList σ.pos=92)(hc:ch s.data.toList (σ.pos+1)=40)(hg:σ.groups=9):
  Calls Tryz.prog 56 #[.pointer (some ⟨R,0,none⟩),.int .i64 σ.pos] w fun r w'=>ItmPost w w' r R P s H vo σ:=by
 have c1:=h.c1
 have pg:=h.pg
 rw[hS.groups,hg]at pg
 have Hh:=hd h
 have h0:=hS.err
 have Hst:Hid (stepT s.data.toList σ=(9,σ)):=hd ((esc_open hx hp hc).trans (by unfold openT;rw[if_pos (by omega)]))
 have hp00:σ.pos<s.size:=by omega
 clear h hS hx hc
 go_enter Tryz.func56,Tryz.ntmps56
 go_wp2_with (go_at_call 18;refine(wrong_any Hh.out 9 σ.pos _ rfl h0).mono ?_;rintro e w2 ⟨rfl,hr2,hk2⟩)
 have c0:=hr2.c0
 have nR:=hr2.new.1
 have Hr2:=hd hr2
 have Hk2:=hd hk2
 clear hr2 hk2 c1 pg
 go_region_held3 (fun w'=>w'.cell? ⟨R,0,none⟩=some (.string s)) (go_keep)
  ((go_at_call 55;refine(byteItem_any 0 _ (by omega)).mono ?_;rintro e w' ⟨rfl,arr,rfl,a1,a2,a3⟩))
 go_wp2
 refine bodyPost_ret (v:= .tuple #[.pointer (some ⟨_,0,none⟩),.int .i64 s.size]) (by simp[results,Tryz.results56,go_sem];rfl) rfl ?_
 exact(itm_err Hr2.out Hk2.out a1 a2 a3 (by omega) hp00 Hst.out).drew
theorem group_main{f:Nat}(hrow:RowSpec s f)(h:Rg w R P s H vo τ)(hS:Sim σ τ)(hC:ClsH H)(hs:s.size<=60)(hp:σ.pos+1<s.size)(hf:s.size<σ.pos+2+f)(hx:ch s.data.toList σ.pos=92)(hc:ch s.data.toList (σ.pos+1)=40)(hg:σ.groups<9):
  Calls Tryz.prog 56 #[.pointer (some ⟨R,0,none⟩),.int .i64 σ.pos] w fun r w'=>ItmPost w w' r R P s H vo σ:=by
 obtain⟨i0,hi0,hz0,hz1,hz2⟩:=info_parts info_int
 have c1:=h.c1
 have pg:=h.pg
 rw[hS.groups]at pg
 have Hh:=hd h
 have fP:=h.fP
 have ne:=h.ne
 obtain⟨oa,oc,rfl⟩:=h.shape
 have hol:τ.opens.length<=9:=by
  have h1:=hS.ol
  have h2:τ.opens.length=σ.outer.length:=by rw[hS.opens];unfold opn;simp
  omega
 have Hopn:Hid (τ.opens.length=(opn σ).length):=hd (by rw[hS.opens])
 have hne:((σ.groups:Int)==9)=false:=by simp;omega
 have Hre:=hd (open_reach hx hp hc hg)
 have Hsim:Hid (Sim (opnT σ) {τ with groups:=σ.groups+1,opens:=τ.opens++ [σ.pos]}):=by
  have:=hS.open hg
  rw[hS.groups]at this
  exact hd this
 have hg1:σ.groups<=9:=by omega
 have Hrow:=hd hrow
 have K5:=hd (grp5 h σ.groups)
 have HC:=hd hC
 clear hx hc h hS hrow hC
 obtain⟨B,hB⟩:∃B,w.heap.size=B:=⟨_,rfl⟩
 go_enter Tryz.func56,Tryz.ntmps56
 go_wp2_with (first
  |refine wp_b2 ⟨#[103,114,111,117,112]⟩ (.tmp 42) ((σ.groups:Int)+1) rfl rfl rfl ?_
  |(refine wp_bx (.tmp 43) ⟨#[103,114,111,117,112]⟩ ((σ.groups:Int)+1) none 0 0 rfl rfl rfl ?_
    generalize (w.setCell ⟨P,1,none⟩ (.int .i64 ((σ.groups:Int)+1))).alloc (.cells (itC ⟨#[103,114,111,117,112]⟩ ((σ.groups:Int)+1) none 0 0) 102)=W at K5 ⊢
    have c12:=K5.out.1.co
    have fR:=K5.out.1.fR)
  |(refine wpList_append_lies _ (by rfl) _ _ _ (by rfl) 0 3 i0 _ 1 8 uInts hi0 hz0 hz1 hz2 rfl (by omega) (.slice oa τ.opens.length oc) τ.opens.length (τ.opens.map fun n:Nat=>Value.int .i64 n) (by rfl) (K5.out.1.own.alloc _)
     ⟨W.heap.size,0,none⟩ 1 1 [.int .i64 σ.pos] (by rfl) (by rfl) (World.news_of_block (cs:= #[.int .i64 σ.pos]) (t:=3) (fr:=(0,0)) (heap_alloc_last _ _)) (by simp[Value.oneCell'])
     (by omega) (by unfold maxLen;omega) (by omega) (by omega) (W.heap.size+1) (by simp) ?_
    intro g cap w1 hown1 hgrow hat hlt
    have r12:w1.cell? ⟨R,12,none⟩=some (.slice oa τ.opens.length oc):=(hgrow.cell_far _ (K5.out.1.alloc _).ltR (fun e=>K5.out.1.oR e.symm)).trans ((World.cell?_alloc_lt _ _ _ K5.out.1.ltR).trans c12)
    have rf12:w1.frozen? ⟨R,12,none⟩=false:=(hgrow.frozen_far _ (K5.out.1.alloc _).ltR (fun e=>K5.out.1.oR e.symm)).trans ((World.frozen?_alloc_old _ _ _ (by have:=K5.out.1.ltR;show R≠_;omega)).trans (fR 12))
    have HG6:=hd (grp6 Hh.out K5.out _ hown1 hgrow hat)))
 refine(Hrow.out _ R P H _ _ (opnT σ) _ HG6.out.rg Hsim.out HC.out hs (by show σ.pos+2<=s.size;omega) rfl (by show s.size<σ.pos+2+f;exact hf) (by show(σ.pos:Int)+2=((σ.pos+2:Nat):Int);omega)).mono ?_
 rintro e w7 ⟨ao,rc,j,bs,its,τ7,H7,v7,rfl,hr7,hk7,hh7,hl7,hn7,hj7,hj8,hsum,hlen,hres⟩
 have hG8:=HG6.out.row Hh.out hr7 hk7 hh7 hl7 hn7
 have nR:B≠R:=by rw[<-hB];have:=Hh.out.ltR;omega
 have nP:B≠P:=by rw[<-hB];have:=Hh.out.ltP;omega
 have hb7:=(hk7.block w.heap.size HG6.out.lt (by rw[hB];exact nR) (by rw[hB];exact nP) HG6.out.own).trans HG6.out.hb
 have f258:w7.frozen? ⟨w.heap.size,258,none⟩=false:=by simp[World.frozen?,hb7]
 have c258:w7.cell? ⟨w.heap.size,258,none⟩=some (.slice none 0 0):=by rw[cell_of_row w7 _ 258 _ _ _ hb7];exact itC_258 _ _ _ _ _
 have hj9:σ.pos+2<=j:=hj7
 have hsum':sumSz (its.map (·.2))<=21002*((j-(σ.pos+2):Nat):Int):=hsum
 have hlen':its.length<=j-(σ.pos+2):=hlen
 have c0:=hr7.c0
 have c12:=hr7.co
 have c13:=hr7.ce
 have fR7:=hr7.fR
 have HG8:=hd hG8
 have Hres:=hd hres
 have Hr7:=hd hr7
 rw[hB]at HG8 f258 c258
 clear hG8 hb7 hr7 hk7 hh7 hl7 hn7 hsum hlen hres hj7 r12 rf12 hown1 hgrow hat hlt HG6 K5 pg c1 fP fR
 by_cases hcl:τ7.err=0/\j<s.size
 ·obtain⟨e1,e2,e3⟩:=grp_close_res Hre.out Hres.out hcl.1 hcl.2
  have E3:=hd e3
  have h0:=hcl.1
  have hjs:(j:Int)<s.size:=by have:=hcl.2;omega
  rw[h0]at c13
  obtain⟨k,cap7,rfl⟩:∃k cap,v7= .slice (some ⟨k,0,none⟩) ((opn σ).length+1) cap:=by
   rcases Hr7.out.own.2 with⟨_,h0⟩|⟨k,cap,_,hv,_⟩
   ·rw[e1]at h0;simp at h0
   ·rw[e1]at hv;simp at hv;exact⟨k,cap,hv⟩
  have hon:(opn σ).length<=9:=by have:=Hopn.out;omega
  have hcap:=(owns_cells (by have:=Hr7.out.own;rw[e1]at this;simpa using this)).choose_spec
  have hc1:((opn σ).length:Int)<=(cap7:Int):=by have:=hcap.2.2.1;omega
  have hc2:(cap7:Int)<=9223372036854775807:=by have:=hcap.2.2.2.1;unfold maxLen at this;omega
  have E1:=hd e1
  obtain⟨N,hN⟩:∃N,N=σ.groups+1:=⟨_,rfl⟩
  have hN2:(σ.groups:Int)+1=(N:Int):=by omega
  rw[hN2]at HG8
  rw[<-hN]at E3
  have hN9:N<=9:=by omega
  clear e1 hcap hN2 hN
  go_wp2
  have c12b:=HG8.out.rg.co
  have fRb:=HG8.out.rg.fR
  generalize w7.setCell ⟨B,258,none⟩ (.slice ao its.length rc)=W8 at HG8 c12b fRb ⊢
  clear c0 c12 c13 fR7 c258 f258 Hr7 hcl h0 hjs
  go_region
  all_goals go_wp2
  have HG10:=hd (HG8.out.pop E1.out).drew
  generalize (W8.setCell ⟨R,12,none⟩ (.slice (some ⟨k,0,none⟩) (opn σ).length cap7)).drew=W10 at HG10 ⊢
  have cN:W10.cell? ⟨B,257,none⟩=some (.int .i64 N):=by obtain⟨arr,a1,_,_,a4,_⟩:=HG10.out.hb;rw[cell_of_row W10 B 257 arr _ _ a1];exact a4
  have cD:=HG10.out.rg.cd N (by omega)
  have fD:=HG10.out.rg.fR (2+N)
  have hN0:(0:Int)<=(N:Int):=by omega
  have hN10:(N:Int)<10:=by omega
  clear c12b fRb HG8
  go_region
  all_goals go_wp2
  all_goals refine bodyPost_ret (v:= .tuple #[.pointer (some ⟨B,0,none⟩),.int .i64 ((j:Int)+2)]) (by simp[results,Tryz.results56,go_sem]) rfl ?_
  all_goals exact⟨B,j+2,⟨4,1+(1+sumSz (its.map (·.2))),.grp N (its.map (·.3))⟩,_,by congr 1,(HG10.out.done N (by omega)).drew.item N (by omega) rfl (by omega) (by omega),by omega,e2,⟨by show(4:Int)≠1;decide,by show 1+(1+sumSz (its.map (·.2)))<=_;omega⟩,E3.out⟩
 ·have HR:=hd (grp_open_res (K:=KIt σ ⟨4,1+(1+sumSz (its.map (·.2))),.grp (σ.groups+1) (its.map (·.3))⟩) Hre.out Hres.out hj8 (by omega))
  have HF:Hid (ItmPost w (w7.setCell ⟨B,258,none⟩ (.slice ao its.length rc)) (.returned (.tuple #[.pointer (some ⟨B,0,none⟩),.int .i64 j])) R P s H (.slice oa τ.opens.length oc) σ):=
   hd ⟨B,j,⟨4,1+(1+sumSz (its.map (·.2))),.grp (σ.groups+1) (its.map (·.3))⟩,τ7,rfl,HG8.out.item (σ.groups+1) (by omega) (by omega) (by omega) (by omega),by omega,hj8,⟨by show(4:Int)≠1;decide,by show 1+(1+sumSz (its.map (·.2)))<=_;omega⟩,HR.out⟩
  by_cases h0:τ7.err=0
  ·rw[h0]at c13
   have hjs:¬(j:Int)<s.size:=by omega
   clear hcl
   go_wp2
   all_goals exact bodyPost_ret (v:= .tuple #[.pointer (some ⟨B,0,none⟩),.int .i64 j]) (by simp[results,Tryz.results56,go_sem]) rfl HF.out
  ·have he:((τ7.err:Int)==0)=false:=by simp;omega
   clear hcl
   go_wp2
   all_goals exact bodyPost_ret (v:= .tuple #[.pointer (some ⟨B,0,none⟩),.int .i64 j]) (by simp[results,Tryz.results56,go_sem]) rfl HF.out
theorem group_any{f:Nat}(hrow:RowSpec s f)(h:Rg w R P s H vo τ)(hS:Sim σ τ)(hC:ClsH H)(hs:s.size<=60)(hp:σ.pos+1<s.size)(hf:s.size<σ.pos+2+f)(hx:ch s.data.toList σ.pos=92)(hc:ch s.data.toList (σ.pos+1)=40):
  Calls Tryz.prog 56 #[.pointer (some ⟨R,0,none⟩),.int .i64 σ.pos] w fun r w'=>ItmPost w w' r R P s H vo σ:=by
 have:=hS.g9
 by_cases hg:σ.groups=9
 ·exact group_nine h hS hs hp hx hc hg
 ·exact group_main hrow h hS hC hs hp hf hx hc (by omega)
end
end Go.Proofs.YtldiemjlpnachaaGreatDoor
namespace Go.Proofs.YtldiemjlpnachaaGreatDoor
open Go.RowKit
section
variable {w : World} {R P : Nat} {s : ByteArray} {H : Fins} {vo : Value} {τ : RSt} {σ : St}
theorem item_grp{f:Nat}(hrow:RowSpec s f)(h:Rg w R P s H vo τ)(hS:Sim σ τ)(hC:ClsH H)(hs:s.size<=60)(hp:σ.pos+1<s.size)(hf:s.size<σ.pos+2+f)(hx:ch s.data.toList σ.pos=92)(hc:ch s.data.toList (σ.pos+1)=40):
  Calls Tryz.prog 33 #[.pointer (some ⟨R,0,none⟩),.int .i64 σ.pos] w fun r w'=>ItmPost w w' r R P s H vo σ:=by
 have c0:=h.c0
 have hp00:σ.pos<s.size:=by omega
 have hx2:(s[σ.pos].toNat:Int)=92:=ch_int hp00 hx
 have hp':(σ.pos:Int)<s.size:=by omega
 have hp0:(0:Int)<=(σ.pos:Int):=by omega
 have Hsw:Hid (sw s.data.toList σ.pos [92,40]=true):=by
  rw[sw2,len_data,hc,hx]
  simp[hp];trivial
 have Hg:=hd (group_any hrow h hS hC hs hp hf hx hc)
 clear h hS hx hc hrow hC
 go_enter Tryz.func33,Tryz.ntmps33
 go_wp2_with (first
  |(go_at_call 31;refine(starts_b s _ _ σ.pos [92,40] _ _ (by omega) rfl Hsw.out (by omega) (by decide) (by decide) (by omega)).mono ?_;rintro e w' ⟨rfl,rfl⟩)
  |(go_at_call 56;refine Hg.out.mono ?_;rintro e w2 ⟨b,j,it,τ',rfl,hpost⟩))
 refine bodyPost_ret (v:= .tuple #[.pointer (some ⟨b,0,none⟩),.int .i64 j]) (by simp[results,Tryz.results33,go_sem]) rfl ?_
 exact⟨b,j,it,τ',rfl,hpost⟩
theorem item_all{f:Nat}(hrow:RowSpec s f)(h:Rg w R P s H vo τ)(hS:Sim σ τ)(hC:ClsH H)(hs:s.size<=60)(hp:σ.pos<s.size)(hf:s.size<σ.pos+2+f)(h41:sw s.data.toList σ.pos [92,41]=false)(h123:sw s.data.toList σ.pos [92,123]=false)
  (h42:¬(ch s.data.toList σ.pos=42/\canB σ.inner.items=true))(h94:σ.inner.items= []->sw s.data.toList σ.pos [94]=false):
  Calls Tryz.prog 33 #[.pointer (some ⟨R,0,none⟩),.int .i64 σ.pos] w fun r w'=>ItmPost w w' r R P s H vo σ:=by
 have hl:=len_data s
 by_cases h92:ch s.data.toList σ.pos=92
 ·by_cases h1:σ.pos+1<s.size
  ·have hn:∀(b:UInt8),sw s.data.toList σ.pos [92,b]=false->ch s.data.toList (σ.pos+1)≠b.toNat:=by
    intro b hb e
    rw[sw2,hl,h92,e]at hb
    simp[h1]at hb
   by_cases h40:ch s.data.toList (σ.pos+1)=40
   ·exact item_grp hrow h hS hC hs h1 hf h92 h40
   ·by_cases hdg:49<=ch s.data.toList (σ.pos+1)/\ch s.data.toList (σ.pos+1)<=57
    ·exact item_ref h hS hs h1 h92 hdg
    ·exact item_sp h hS hs hp h92 (fun _=>h40) (fun _=>hn 41 h41) (fun _=>hn 123 h123) (fun _=>hdg)
  ·exact item_sp h hS hs hp h92 (fun e=>absurd e h1) (fun e=>absurd e h1) (fun e=>absurd e h1) (fun e=>absurd e h1)
 ·by_cases h91:ch s.data.toList σ.pos=91
  ·exact item_brk h hS hC hs hp h91
  ·by_cases h46:ch s.data.toList σ.pos=46
   ·exact item_dot h hS hs hp h46
   ·by_cases h36:ch s.data.toList σ.pos=36/\(decide (s.data.toList.length<=σ.pos+1)||sw s.data.toList (σ.pos+1) [92,41])=true
    ·exact item_end h hS hs hp h36.1 h36.2
    ·refine item_byte h hS hs hp h92 h91 h46 h36 (fun e=>?_) h42
     have:=h94 e.2
     rw[sw1,hl,e.1]at this
     simp[hp]at this
end
end Go.Proofs.YtldiemjlpnachaaGreatDoor

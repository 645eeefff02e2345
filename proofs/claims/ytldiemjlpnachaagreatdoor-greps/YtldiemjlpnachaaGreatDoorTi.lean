import Derived.Test.YtldiemjlpnachaaGreatDoorRo
import Derived.Test.YtldiemjlpnachaaGreatDoorDm
set_option maxHeartbeats 6400000
set_option maxRecDepth 100000
namespace Go.Proofs.YtldiemjlpnachaaGreatDoor
open Go.RowKit
theorem Sts2.gro2{w w':World}{base T:Nat}{tg tg2 tg2':Nat->Option Nat}{L M:List Ds}(h:Sts2 w base T tg L M)(hg:Gro w w' tg2 tg2')(ht:∀k,tg k≠none->tg2 k=none):Sts2 w' base T tg L M:=
 h.same hg.size (fun k hk=>hg.block k (h.tl k hk).2 (ht k hk))
theorem grow_all{X TO bs g cap lc fc:Nat}{la fa:Option Addr}{w w7 w8:World}{tg:Nat->Option Nat}{O L F:List Ds}{M:Ds->Prop}{z:Ds}{o:Obj}(h:DIn X TO w w7 tg O M)(hl:Kps w7 tg X (.slice la L.length lc) L)(hf:Kps w7 tg bs (.slice fa F.length fc) F)
  (hX:X<=w7.heap.size)(hXb:X<=bs)(hlb:∀k,(Value.slice la L.length lc).ownBlock=some k->k<bs)(hgr:(w7.alloc o).grownBy w8 (Value.slice fa F.length fc).ownBlock)
  (hown:w8.ownsRow bs 77 21 (.slice (some ⟨g,0,none⟩) (F.length+1) cap) (F.length+1) (sts F++stL z))(hat:(Value.slice fa F.length fc).ownBlock=some g\/g=w7.heap.size+1):
  DIn X TO w w8 tg O M/\Kps w8 tg X (.slice la L.length lc) L/\Kps w8 tg bs (.slice (some ⟨g,0,none⟩) (F++ [z]).length cap) (F++ [z]):=by
 have blk:∀k,k<w7.heap.size->(Value.slice fa F.length fc).ownBlock≠some k->w8.heap[k]?=w7.heap[k]?:=fun k hk hv=>(hgr.block k (by simp;omega) (fun e=>hv e.symm)).trans (Below.heap_alloc _ _ _ hk)
 have hsz:=hgr.size
 simp only[World.size_alloc]at hsz
 refine⟨⟨h.bl.trans ⟨hgr.os,hgr.tape,hgr.output,by omega,fun k hk=>blk k (by omega) (fun e=>?_)⟩,h.st.same (by omega) (fun k hk=>blk k (h.st.tl k hk).2 (fun e=>hk (hf.2 k e))),h.nd,h.mem⟩,⟨owns_same hl.1 (fun k hk=>blk k (owns_lt hl.1 hk) (fun e=>?_)),hl.2⟩,?_,fun k hk=>?_⟩
 ·have:=(hf.1.lt k e).1;omega
 ·have:=(hf.1.lt k e).1
  have:=hlb k hk
  omega
 ·rw[List.length_append,List.length_singleton,sts_snoc];exact hown
 ·simp only[Value.ownBlock,Option.some.injEq]at hk
  subst hk
  rcases hat with e|e
  ·exact hf.2 g e
  ·cases et:tg g with
   |none=>rfl
   |some q=>have:=(h.st.tl g (by rw[et];simp)).2;omega
theorem frD_take{mx:Int}{O L:List Ds}{i:Nat}(hi:i<L.length):frD mx O (L.take (i+1))=frD mx O (L.take i)++(if L[i] ∉ O\/0<=mx then [L[i]]else []):=by
 unfold frD
 rw[take_snoc' L i hi,List.filter_append]
 by_cases h:L[i] ∉ O\/0<=mx
 ·rw[if_pos h,List.filter_cons_of_pos (by simpa using h),List.filter_nil]
 ·rw[if_neg h,List.filter_cons_of_neg (by simpa using h),List.filter_nil]
theorem take_not{α:Type}{L:List α}{i:Nat}(hn:L.Nodup)(hi:i<L.length):L[i] ∉ L.take i:=by
 intro h
 have h2:(L.take i++L.drop i).Nodup:=by rw[List.take_append_drop];exact hn
 rw[List.nodup_append]at h2
 exact h2.2.2 _ h _ (List.mem_iff_getElem?.2 ⟨0,by rw[List.getElem?_drop,Nat.add_zero,List.getElem?_eq_getElem hi]⟩) rfl
theorem dtimes_any{H:Fins}{d:Nat}{s:ByteArray}{rf:List Nat}{P:Nat}(hI:DItem H d s rf P)(hfit:FitD s.size rf)(w:World)(b q m:Nat)(mx:Int)(qi:It)(arr:Array Value)(x:Ds)(hE:Env w H P rf)(hb:H b=some arr)
  (h59:arr[259]?=some (.pointer (some ⟨q,0,none⟩)))(h60:arr[260]?=some (.int .i64 m))(h61:arr[261]?=some (.int .i64 mx))(hq:RItemOk H d q qi)(hm:m<=20)(hmx0: -1<=mx)(hmx1:mx<=20)(hmx:mx= -1\/(m:Int)<=mx)(hx:OkD s.size rf x):
  Calls Tryz.prog 57 #[.pointer (some ⟨P,0,none⟩),.pointer (some ⟨b,0,none⟩),.string s,.agg (stV x)] w fun e w'=>OutP w w' e (fun v=>RptD (fun u v=>Md s.data.toList rf qi.3 u v) m mx x v):=by
 have HI:=hd hI
 have Hfit:=hd hfit
 have HE:=hd hE
 have Hx:=hd hx
 have Hq:=hd hq
 have Hmx:=hd hmx
 have HKp:Hid (KeepD s.size rf (fun u v=>Md s.data.toList rf qi.3 u v)):=hd (by have:=md_ok s.data.toList rf hfit.1 qi.3;rw[len_data]at this;exact this)
 have Hn9:Hid (s.size<=1000000000):=hd hfit.2.2.1
 have hn9:=hfit.2.2.1
 have HC:Hid (∀wr,Env wr H P rf->wr.cell? ⟨b,259,none⟩=some (.pointer (some ⟨q,0,none⟩))/\wr.cell? ⟨b,260,none⟩=some (.int .i64 m)/\wr.cell? ⟨b,261,none⟩=some (.int .i64 mx)):=hd (fun wr h=>⟨h.fin.cell hb h59,h.fin.cell hb h60,h.fin.cell hb h61⟩)
 have HR0:=hd (range_new w x)
 have Hu:=hd und_state.choose_spec
 have Hi21:Hid (∀e:Ds,(Tryz.prog.info? 77).map (·.size)=some (stL e).length):=hd (fun e=>info_state)
 generalize hRd:(fun u v=>Md s.data.toList rf qi.3 u v)=R at*
 have HRd:=hd hRd
 clear hI hfit hE hx hq hmx hb h59 h60 h61 hRd
 go_enter Tryz.func57,Tryz.ntmps57
 go_wp2_with (first
  |refine wp_stx (.tmp 3) (stV x) rfl rfl rfl ?_
  |refine wpList_load_mid rfl 77 (.tmp 7) rfl w.heap.size 0 (by rfl) (stL x) _ HR0.out Hu.out rfl (Hi21.out x) ?_
  |refine wp_one (.tmp 20) x rfl rfl (by rfl) ?_
  |refine wp_sts rfl rfl ?_
  |refine wp_stsx (.tmp 22) stZ rfl rfl (by rfl) ?_)
 obtain⟨X,hX⟩:∃X,w.heap.size=X:=⟨_,rfl⟩
 have HX:=hd hX
 have hsz2:((w.alloc (.cells (stV x) 77)).alloc (.cells (stV x) 77)).heap.size=X+2:=by simp;omega
 have HI0:Hid (DIn X (X+2) w (((w.alloc (.cells (stV x) 77)).alloc (.cells (stV x) 77)).alloc (.cells stZ 111)) (fun k=>if k=X+2 then some 998 else none) [] (fun v=>v∈([]:List Ds))):=hd (by
  have h2:=sts_new ((w.alloc (.cells (stV x) 77)).alloc (.cells (stV x) 77))
  rw[hsz2]at h2
  refine⟨?_,h2,by simp,fun v=>Iff.rfl⟩
  rw[<-hX]
  exact((alloc_below w _).trans ((alloc_below _ _).mono (by simp))).trans ((alloc_below _ _).mono (by simp;omega)))
 have HK0:Hid (Kps (((w.alloc (.cells (stV x) 77)).alloc (.cells (stV x) 77)).alloc (.cells stZ 111)) (fun k=>if k=X+2 then some 998 else none) X (.slice (some ⟨X+1,0,none⟩) 1 1) [x]):=hd (by
  have:=owns_one (w:=w.alloc (.cells (stV x) 77)) (base:=X) x (by simp;omega)
  rw[show(w.alloc (.cells (stV x) 77)).heap.size=X+1 by simp;omega]at this
  refine⟨this.alloc _,fun k hk=>?_⟩
  simp only[Value.ownBlock,Option.some.injEq]at hk
  exact if_neg (by omega))
 have hs0:X+2<(((w.alloc (.cells (stV x) 77)).alloc (.cells (stV x) 77)).alloc (.cells stZ 111)).heap.size:=by simp;omega
 clear HR0 hsz2
 generalize ((w.alloc (.cells (stV x) 77)).alloc (.cells (stV x) 77)).alloc (.cells stZ 111)=W0 at*
 simp only[hX,show X+1+1=X+2 from rfl]
 clear hX
 obtain⟨TO,hTO⟩:∃TO,TO=X+2:=⟨_,rfl⟩
 rw[<-hTO]at HI0 HK0 hs0
 simp only[<-hTO]
 have hXO:X<=TO:=by omega
 have HTO:=hd hTO
 clear hTO
 go_loopg [9,11] (m+s.size+3) (fun f lv kv wr=>∃(k:Nat) (L O:List Ds) (la:Option Addr) (lc:Nat) (tg:Nat->Option Nat),kv= .int .i64 k/\lv= .slice la L.length lc/\k<=m+s.size+1/\m+s.size+2<k+f/\TO<wr.heap.size/\Hid (DIn X TO w wr tg O (fun v=>v∈O))/\Hid (Kps wr tg X (.slice la L.length lc) L)/\Hid (L.Nodup/\TmD R m mx x k L O))
 case atStart=>exact⟨0,[x],[],_,_,_,rfl,rfl,by omega,by omega,hs0,HI0,HK0,hd ⟨by simp,tmD_start Hmx.out⟩⟩
 case round=>
  clear HI0 HK0 hs0
  obtain⟨k,L,O,la,lc,tg,rfl,rfl,hk,hkf,hTw,HIn,HK,HT⟩:=hrel
  have hok:=tmD_ok HKp.out Hx.out HT.out.2
  have HLok:=hd hok.1
  have HOok:=hd hok.2
  have hLn:L.length<=2000000000:=(all_count Hfit.out HT.out.1 hok.1).1
  have hLI:(L.length:Int)<=2000000000:=by omega
  have hkI:(k:Int)<=2000000000:=by omega
  have hk0:(0:Int)<=(k:Int):=by omega
  have hmI:(m:Int)<=20:=by omega
  have HEr:=hd (HE.out.below HX.out.symm HIn.out.bl)
  obtain⟨c59,c60,c61⟩:=HC.out wr HEr.out
  obtain⟨gf,rfl⟩:∃gf,gk=gf+1:=⟨gk-1,by omega⟩
  clear hok
  go_upto_if 31 with fail
  go_cut [9,12,14]from 24 to 111 (fun lv _ _ wx=>∃(G O':List Ds) (ga:Option Addr) (gc:Nat) (tg':Nat->Option Nat),lv= .slice ga G.length gc/\TO<wx.heap.size/\Hid (DIn X TO w wx tg' O' (fun v=>v∈O'))/\Hid (Kps wx tg' X (.slice ga G.length gc) G)/\Hid (G.Nodup)/\Hid ((k<m/\G=L/\O'=O)\/(m<=k/\G=frD mx O L/\∀v,v∈O'↔v∈O\/v∈L)))
  case first=>
   by_cases hkm:k<m
   ·have hkmI:¬(m:Int)<=(k:Int):=by omega
    go_wp2
    go_meet
    case rel=>exact⟨L,O,la,lc,tg,rfl,hTw,HIn,HK,hd HT.out.1,hd (.inl ⟨hkm,rfl,rfl⟩)⟩
   ·have hkmI:(m:Int)<=(k:Int):=by omega
    rw[show decide (m<=k)=true from decide_eq_true (by omega)]
    go_wp2
    obtain⟨bs,hbs⟩:∃bs,wr.heap.size=bs:=⟨_,rfl⟩
    have hXb:X<=bs:=by have:=HIn.out.bl.size;have:=HX.out;omega
    have HLb:Hid (∀k,(Value.slice la L.length lc).ownBlock=some k->k<bs):=hd (fun k hk=>by rw[<-hbs];exact owns_lt HK.out.1 hk)
    have hbw:bs<=wr.heap.size:=by omega
    clear hbs c59 c60 c61
    go_loopg [12,34] (L.length+1) (fun f fv iv w5=>∃(i:Nat) (O' F:List Ds) (fa:Option Addr) (fc:Nat) (tg':Nat->Option Nat),iv= .int .i64 i/\fv= .slice fa F.length fc/\i<=L.length/\L.length<i+f/\TO<w5.heap.size/\bs<=w5.heap.size/\Hid (DIn X TO w w5 tg' O' (fun v=>v∈O\/v∈L.take i))/\Hid (Kps w5 tg' X (.slice la L.length lc) L)/\Hid (Kps w5 tg' bs (.slice fa F.length fc) F)/\Hid (F=frD mx O (L.take i)))
    case atStart=>exact⟨0,O,[],none,0,tg,rfl,rfl,by omega,by omega,hTw,hbw,hd (HIn.out.cg (fun v=>by simp)),HK,hd ⟨World.ownsRow_nil _ _ _ _,fun k hk=>by simp[Value.ownBlock]at hk⟩,hd (by simp[frD])⟩
    case round=>
     clear HIn HK HEr hTw hbw
     obtain⟨i,O',F,fa,fc,tg',rfl,rfl,hi,hif,hTw,hbw,HIn,HK,HF,HFe⟩:=hrel
     by_cases hil:i<L.length
     ·obtain⟨gl,rfl⟩:=owns_some HK.out.1 (by omega)
      obtain⟨z,hz⟩:∃z,z=L[i]:=⟨_,rfl⟩
      have HR1:Hid (wr.rangeAt gl (i*21) (stL z)):=hd (by rw[hz];exact range_at HK.out.1 hil)
      have HR2:=hd (range_new wr z)
      have Hzo:Hid (OkD s.size rf z):=hd (HLok.out z (by rw[hz];exact List.getElem_mem hil))
      have Htki:Hid (∀v,v∈L.take (i+1)↔v∈L.take i\/v=z):=hd (fun v=>by rw[hz];exact mem_take_succ hil v)
      have Hfr:Hid (frD mx O (L.take (i+1))=frD mx O (L.take i)++(if z ∉ O\/0<=mx then [z]else [])):=hd (by rw[hz];exact frD_take hil)
      have hXw:X<=wr.heap.size:=by omega
      have HIa:=hd (HIn.out.below hXw (alloc_below wr (.cells (stV z) 77)))
      have HKa:=hd (HK.out.below (alloc_below wr (.cells (stV z) 77)))
      have HFa:=hd (HF.out.below (alloc_below wr (.cells (stV z) 77)))
      have hcnt:=all_count Hfit.out HIn.out.nd (fun v hv=>by
       rcases(HIn.out.mem v).1 hv with h|h
       ·exact HOok.out v h
       ·exact HLok.out v (List.mem_of_mem_take h))
      have hFn:F.length<=2000000000:=by
       rw[HFe.out]
       have h1:=List.length_filter_le (fun z=>decide (z ∉ O)||decide (0<=mx)) (L.take i)
       have h2:(frD mx O (L.take i)).length<=(L.take i).length:=h1
       rw[List.length_take]at h2
       omega
      have hFI:(F.length:Int)<=2000000000:=by omega
      have Hcall:=hd (dadd_any HIa.out.st hcnt.2 z (Hzo.out.okH Hn9.out) hcnt.1 (by simp;omega))
      have Hzin:Hid (decide (z ∉ O')=decide (z ∉ O)):=hd (by
       rw[decide_eq_decide,HIn.out.mem z]
       have:=take_not HT.out.1 hil
       rw[<-hz]at this
       constructor
       ·intro h1 h2;exact h1 (.inl h2)
       ·rintro h1 (h2|h2)
        ·exact h1 h2
        ·exact this h2)
      have hjI:(i:Int)<(L.length:Int):=by omega
      have hj0:(0:Int)<=(i:Int):=by omega
      have Hblk:Hid (∀w7 tg7,Gro (wr.alloc (.cells (stV z) 77)) w7 tg' tg7->w7.rangeAt wr.heap.size 0 (stL z)):=hd (fun w7 tg7 hg=>by
       have hb:w7.heap[wr.heap.size]?=some (.cells (stV z) 77 (0,0)):=(hg.block _ (by simp) (by
        cases e:tg' wr.heap.size with
        |none=>rfl
        |some q=>have:=(HIn.out.st.tl _ (by rw[e];simp)).2;omega)).trans (heap_alloc_new wr _)
       have:=World.rangeAt_of_block hb 0 21
       rw[show((stV z).extract 0 (0+21)).toList=stL z by kernel_rfl]at this
       exact this)
      clear hz hcnt
      rw[Hzin.out]at Hcall
      obtain⟨gf2,rfl⟩:∃gf2,gk=gf2+1:=⟨gk-1,by omega⟩
      by_cases hzO:z∈O
      ·have hdz:decide (z ∉ O)=false:=by simp[hzO]
       rw[hdz]at Hcall
       by_cases hm0:0<=mx
       ·have hcond:z ∉ O\/0<=mx:= .inr hm0
        clear hdz hzO
        obtain⟨i1,hi1,hy0,hy1,hy2⟩:=info_parts info_st
        go_wp2_with (first
         |refine wpList_load_mid rfl 77 (.tmp 36) rfl gl (i*21) (by rfl) (stL z) _ HR1.out Hu.out rfl (Hi21.out z) ?_
         |(refine wpList_store_row rfl 77 (.tmp 14) (.tmp 37) rfl wr.heap.size (stV z) (by rfl) (by rfl) 77 _ (heap_alloc_new _ _) info_state rfl (stV_one z) ?_;rw[World.setRow_alloc_new])
         |refine wpList_load_mid rfl 77 (.tmp 14) rfl wr.heap.size 0 (by rfl) (stL z) _ HR2.out Hu.out rfl (Hi21.out z) ?_
         |(go_at_call 36;refine Hcall.out.mono ?_;rintro e w7 ⟨rfl,tg7,hs7,hg7⟩;have HI7:=hd ((HIa.out.add (by simp;omega) hXO hs7 hg7).cg (M':=fun v=>v∈O\/v∈L.take (i+1)) (fun v=>by rw[Htki.out v,or_assoc]));have HK7:=hd (HKa.out.gro hg7);have HF7:=hd (HFa.out.gro hg7);have HR7:=hd (Hblk.out _ _ hg7);have hsz7:wr.heap.size+1<=w7.heap.size:=(by have:=hg7.size;simp at this;omega);have c61:=(HC.out w7 (HE.out.below HX.out.symm HI7.out.bl)).2.2)
         |refine wpList_load_mid rfl 77 (.tmp 14) rfl wr.heap.size 0 (by rfl) (stL z) _ HR7.out Hu.out rfl (Hi21.out z) ?_
         |refine wp_one (.tmp 49) z rfl rfl (by rfl) ?_
         |(refine wpList_append_lies _ (by rfl) _ _ _ (by rfl) bs 77 i1 _ 21 168 uStates hi1 hy0 hy1 hy2 rfl (by omega) (.slice fa F.length fc) F.length (sts F) (by rfl) (HF7.out.1.alloc _) ⟨w7.heap.size,0,none⟩ 1 1 (stL z) (by rfl) (by rfl) (World.news_of_block (cs:=stV z) (t:=77) (fr:=(0,0)) (heap_alloc_new w7 _)) (stL_one z) (by omega) (by unfold maxLen;omega) (by omega) (by simp;omega) (w7.heap.size+1) (by simp) ?_;intro g cap w8 hown8 hgr8 hat8 hlt8;have HG:=hd (grow_all HI7.out HK7.out HF7.out (by omega) hXb HLb.out hgr8 hown8 hat8);have hsz8:w7.heap.size<=w8.heap.size:=(by have:=hgr8.size;simp at this;omega)))
        have HFe2:Hid (F++ [z]=frD mx O (L.take (i+1))):=hd (by rw[Hfr.out,if_pos hcond,HFe.out])
        clear hown8 hgr8 hat8 hlt8 hs7 hg7 hi1 hy0 hy1 hy2 c61
        go_roundg gf2
        case measure=>omega
        case rel=>exact⟨i+1,_,F++ [z],some ⟨g,0,none⟩,cap,tg7,by go_num,by simp,by omega,by omega,by omega,by omega,hd HG.out.1,hd HG.out.2.1,hd HG.out.2.2,HFe2⟩
       ·have hcond:¬(z ∉ O\/0<=mx):=by
         rintro(h|h)
         ·exact h hzO
         ·exact hm0 h
        clear hdz hzO
        go_wp2_with (first
         |refine wpList_load_mid rfl 77 (.tmp 36) rfl gl (i*21) (by rfl) (stL z) _ HR1.out Hu.out rfl (Hi21.out z) ?_
         |(refine wpList_store_row rfl 77 (.tmp 14) (.tmp 37) rfl wr.heap.size (stV z) (by rfl) (by rfl) 77 _ (heap_alloc_new _ _) info_state rfl (stV_one z) ?_;rw[World.setRow_alloc_new])
         |refine wpList_load_mid rfl 77 (.tmp 14) rfl wr.heap.size 0 (by rfl) (stL z) _ HR2.out Hu.out rfl (Hi21.out z) ?_
         |(go_at_call 36;refine Hcall.out.mono ?_;rintro e w7 ⟨rfl,tg7,hs7,hg7⟩;have HI7:=hd ((HIa.out.add (by simp;omega) hXO hs7 hg7).cg (M':=fun v=>v∈O\/v∈L.take (i+1)) (fun v=>by rw[Htki.out v,or_assoc]));have HK7:=hd (HKa.out.gro hg7);have HF7:=hd (HFa.out.gro hg7);have HR7:=hd (Hblk.out _ _ hg7);have hsz7:wr.heap.size+1<=w7.heap.size:=(by have:=hg7.size;simp at this;omega);have c61:=(HC.out w7 (HE.out.below HX.out.symm HI7.out.bl)).2.2))
        have HFe2:Hid (F=frD mx O (L.take (i+1))):=hd (by rw[Hfr.out,if_neg hcond,List.append_nil,HFe.out])
        clear hs7 hg7 c61
        go_roundg gf2
        case measure=>omega
        case rel=>exact⟨i+1,_,F,fa,fc,tg7,by go_num,rfl,by omega,by omega,by omega,by omega,HI7,HK7,HF7,HFe2⟩
      ·have hdz:decide (z ∉ O)=true:=by simp[hzO]
       rw[hdz]at Hcall
       have hcond:z ∉ O\/0<=mx:= .inl hzO
       clear hdz hzO
       obtain⟨i1,hi1,hy0,hy1,hy2⟩:=info_parts info_st
       go_wp2_with (first
        |refine wpList_load_mid rfl 77 (.tmp 36) rfl gl (i*21) (by rfl) (stL z) _ HR1.out Hu.out rfl (Hi21.out z) ?_
        |(refine wpList_store_row rfl 77 (.tmp 14) (.tmp 37) rfl wr.heap.size (stV z) (by rfl) (by rfl) 77 _ (heap_alloc_new _ _) info_state rfl (stV_one z) ?_;rw[World.setRow_alloc_new])
        |refine wpList_load_mid rfl 77 (.tmp 14) rfl wr.heap.size 0 (by rfl) (stL z) _ HR2.out Hu.out rfl (Hi21.out z) ?_
        |(go_at_call 36;refine Hcall.out.mono ?_;rintro e w7 ⟨rfl,tg7,hs7,hg7⟩;have HI7:=hd ((HIa.out.add (by simp;omega) hXO hs7 hg7).cg (M':=fun v=>v∈O\/v∈L.take (i+1)) (fun v=>by rw[Htki.out v,or_assoc]));have HK7:=hd (HKa.out.gro hg7);have HF7:=hd (HFa.out.gro hg7);have HR7:=hd (Hblk.out _ _ hg7);have hsz7:wr.heap.size+1<=w7.heap.size:=(by have:=hg7.size;simp at this;omega);have c61:=(HC.out w7 (HE.out.below HX.out.symm HI7.out.bl)).2.2)
        |refine wpList_load_mid rfl 77 (.tmp 14) rfl wr.heap.size 0 (by rfl) (stL z) _ HR7.out Hu.out rfl (Hi21.out z) ?_
        |refine wp_one (.tmp 49) z rfl rfl (by rfl) ?_
        |(refine wpList_append_lies _ (by rfl) _ _ _ (by rfl) bs 77 i1 _ 21 168 uStates hi1 hy0 hy1 hy2 rfl (by omega) (.slice fa F.length fc) F.length (sts F) (by rfl) (HF7.out.1.alloc _) ⟨w7.heap.size,0,none⟩ 1 1 (stL z) (by rfl) (by rfl) (World.news_of_block (cs:=stV z) (t:=77) (fr:=(0,0)) (heap_alloc_new w7 _)) (stL_one z) (by omega) (by unfold maxLen;omega) (by omega) (by simp;omega) (w7.heap.size+1) (by simp) ?_;intro g cap w8 hown8 hgr8 hat8 hlt8;have HG:=hd (grow_all HI7.out HK7.out HF7.out (by omega) hXb HLb.out hgr8 hown8 hat8);have hsz8:w7.heap.size<=w8.heap.size:=(by have:=hgr8.size;simp at this;omega)))
       have HFe2:Hid (F++ [z]=frD mx O (L.take (i+1))):=hd (by rw[Hfr.out,if_pos hcond,HFe.out])
       clear hown8 hgr8 hat8 hlt8 hs7 hg7 hi1 hy0 hy1 hy2 c61
       go_roundg gf2
       case measure=>omega
       case rel=>exact⟨i+1,_,F++ [z],some ⟨g,0,none⟩,cap,tg7,by go_num,by simp,by omega,by omega,by omega,by omega,hd HG.out.1,hd HG.out.2.1,hd HG.out.2.2,HFe2⟩
     ·obtain rfl:i=L.length:=by omega
      have HRel:Hid (DIn X TO w wr tg' O' (fun v=>v∈O')):=hd ⟨HIn.out.bl,HIn.out.st,HIn.out.nd,fun v=>Iff.rfl⟩
      have HGd:Hid (F.Nodup/\F=frD mx O L/\∀v,v∈O'↔v∈O\/v∈L):=hd (by
       have h1:F=frD mx O L:=by rw[HFe.out,List.take_length]
       refine⟨?_,h1,fun v=>by rw[HIn.out.mem v,List.take_length]⟩
       rw[h1]
       exact HT.out.1.filter _)
      have HKF:Hid (Kps wr tg' X (.slice fa F.length fc) F):=hd ⟨owns_base HF.out.1 hXb,HF.out.2⟩
      go_wp2
      go_meet
      case rel=>exact⟨F,O',fa,fc,tg',rfl,hTw,HRel,HKF,hd HGd.out.1,hd (.inr ⟨by omega,HGd.out.2⟩)⟩
  case rest=>
   clear c59 c60 c61 HEr
   obtain⟨G,O',ga,gc,tg',rfl,hTc,HIn2,HK2,HGn,HGd⟩:=hcut
   have HGok:Hid (∀z∈G,OkD s.size rf z):=hd (fun z hz=>by
    rcases HGd.out with⟨_,h,_⟩|⟨_,h,_⟩
    ·rw[h]at hz;exact HLok.out z hz
    ·rw[h]at hz;exact HLok.out z (mem_frD.1 hz).1)
   have hGn:G.length<=2000000000:=(all_count Hfit.out HGn.out HGok.out).1
   have hGI:(G.length:Int)<=2000000000:=by omega
   have HEc:=hd (HE.out.below HX.out.symm HIn2.out.bl)
   obtain⟨c59,c60,c61⟩:=HC.out wc HEc.out
   obtain⟨vo,hvo,hoo,hto⟩:=HIn2.out.st.cl
   obtain⟨oa,oc,rfl⟩:=owns_shape hoo
   have HFin:Hid ((G.length=0\/(k:Int)=mx)->OutP w wc (.returned (.slice oa O'.length oc)) (fun v=>RptD R m mx x v)):=hd (fun he=>by
    refine⟨O',_,rfl,by rw[HX.out];exact HIn2.out.bl,by rw[HX.out];exact owns_base hoo hXO,HIn2.out.nd,?_⟩
    rcases HGd.out with⟨h1,h2,h3⟩|⟨h1,h2,h3⟩
    ·have hG:G= []:=by
      rcases he with he|he
      ·exact List.length_eq_zero_iff.1 he
      ·rcases Hmx.out with e|e<;>omega
     have ht:=HT.out.2
     rw[<-h2,hG]at ht
     obtain⟨h4,h5⟩:=tmD_none ht h1
     intro u
     rw[h3,h4]
     constructor
     ·intro h;simp at h
     ·intro h;exact absurd h (h5 u)
    ·refine tmD_end HT.out.2 h1 h3 ?_
     rcases he with he|he
     ·exact .inl (by rw[<-h2];exact List.length_eq_zero_iff.1 he)
     ·exact .inr he)
   clear hoo hto HIn HK HLok HOok hLn hLI
   by_cases hG0:G.length=0
   ·have hb0:((G.length:Int)==0)=true:=beq_iff_eq.2 (by omega)
    have HF:=hd (HFin.out (.inl hG0))
    clear hG0
    go_wp2
    go_ret
    exact HF.out
   ·by_cases hkx:(k:Int)=mx
    ·have hb0:((G.length:Int)==0)=false:=beq_eq_false_iff_ne.2 (by omega)
     have hb1:((k:Int)==mx)=true:=beq_iff_eq.2 hkx
     have HF:=hd (HFin.out (.inr hkx))
     clear hG0 hkx
     go_wp2
     go_ret
     exact HF.out
    ·have hb0:((G.length:Int)==0)=false:=beq_eq_false_iff_ne.2 (by omega)
     have hb1:((k:Int)==mx)=false:=beq_eq_false_iff_ne.2 hkx
     have HTn:Hid (∀N:List Ds,(∀v,v∈N↔∃z∈G,R z v/\(k<m\/z.1<v.1))->TmD R m mx x (k+1) N O'):=hd (fun N hN=>by
      rcases HGd.out with⟨h1,h2,h3⟩|⟨h1,h2,h3⟩
      ·rw[h3]
       refine tmD_low Hmx.out HT.out.2 h1 (fun v=>?_)
       rw[hN v,h2]
       constructor
       ·rintro⟨z,k1,k2,_⟩;exact⟨z,k1,k2⟩
       ·rintro⟨z,k1,k2⟩;exact⟨z,k1,k2,.inl h1⟩
      ·refine tmD_next HT.out.2 h1 h3 hkx (fun v=>?_)
       rw[hN v,<-h2]
       constructor
       ·rintro⟨z,k1,k2,k3⟩;exact⟨z,k1,k2,k3.resolve_left (by omega)⟩
       ·rintro⟨z,k1,k2,k3⟩;exact⟨z,k1,k2,.inr k3⟩)
     have Hk1:Hid (k<=m+s.size):=hd (by
      rcases Nat.lt_or_ge (m+s.size) k with h|h
      ·exfalso
       have hb:=tmD_bound HT.out.2 (by omega)
       obtain⟨z,hz⟩:∃z,z∈G:=by
        cases hG:G with
        |nil=>rw[hG]at hG0;simp at hG0
        |cons z r=>exact⟨z,by simp⟩
       have hzo:=(HGok.out z hz).pl
       rcases HGd.out with⟨h1,_⟩|⟨_,h2,_⟩
       ·omega
       ·rw[h2]at hz
        have:=hb z (mem_frD.1 hz).1
        omega
      ·exact h)
     clear hkx hG0 HFin HGd HT
     obtain⟨T2,hT2⟩:∃T2,wc.heap.size=T2:=⟨_,rfl⟩
     have hXT2:X<=T2:=by have:=HIn2.out.bl.size;have:=HX.out;omega
     have HIn:Hid (DIn X T2 w (wc.alloc (.cells stZ 111)) (fun k=>if k=T2 then some 998 else none) [] (fun v=>∃z∈G.take 0,R z v/\(k<m\/z.1<v.1))):=hd (by
      subst hT2
      exact⟨HIn2.out.bl.trans ((alloc_below wc _).mono hXT2),sts_new wc,by simp,fun v=>by simp⟩)
     have HK:Hid (Kps (wc.alloc (.cells stZ 111)) (fun k=>if k=T2 then some 998 else none) X (.slice ga G.length gc) G):=hd (by
      subst hT2
      refine⟨HK2.out.1.alloc _,fun k hk=>?_⟩
      have:=owns_lt HK2.out.1 hk
      exact if_neg (by omega))
     have HSo:Hid (Sts (wc.alloc (.cells stZ 111)) TO TO tg' O'):=hd (HIn2.out.st.below (alloc_below wc _))
     have Htl2:Hid (∀k,tg' k≠none->k<T2):=hd (fun k hk=>by rw[<-hT2];exact(HIn2.out.st.tl k hk).2)
     have HOn:=hd HIn2.out.nd
     have hTs:T2<(wc.alloc (.cells stZ 111)).heap.size:=by simp;omega
     go_wp2_with (first
      |refine wp_sts rfl rfl ?_
      |refine wp_stsx (.tmp 69) stZ rfl rfl (by rfl) ?_)
     clear c59 c60 c61 HEc HIn2 HK2 hvo
     generalize wc.alloc (.cells stZ 111)=W1 at*
     clear hT2
     go_loopg [73] (G.length+1) (fun f iv w2=>∃(i:Nat) (N:List Ds) (tg:Nat->Option Nat),iv= .int .i64 i/\i<=G.length/\G.length<i+f/\T2<w2.heap.size/\Hid (DIn X T2 w w2 tg N (fun v=>∃z∈G.take i,R z v/\(k<m\/z.1<v.1)))/\Hid (Kps w2 tg X (.slice ga G.length gc) G)/\Hid (Sts w2 TO TO tg' O'))
     case atStart=>exact⟨0,[],_,rfl,by omega,by omega,hTs,HIn,HK,HSo⟩
     case round=>
      clear HIn HK HSo hTs
      obtain⟨i,N,tg,rfl,hi,hif,hTs,HIn,HK,HSo⟩:=hrel
      by_cases hil:i<G.length
      ·obtain⟨gl,rfl⟩:=owns_some HK.out.1 (by omega)
       obtain⟨z,hz⟩:∃z,z=G[i]:=⟨_,rfl⟩
       have HR1:Hid (wr.rangeAt gl (i*21) (stL z)):=hd (by rw[hz];exact range_at HK.out.1 hil)
       have HR2:=hd (range_new wr z)
       have Hzo:Hid (OkD s.size rf z):=hd (HGok.out z (by rw[hz];exact List.getElem_mem hil))
       have Htki:Hid (∀v,v∈G.take (i+1)↔v∈G.take i\/v=z):=hd (fun v=>by rw[hz];exact mem_take_succ hil v)
       have hXw:X<=wr.heap.size:=by omega
       have HEa:=hd (HE.out.below HX.out.symm (HIn.out.bl.trans ((alloc_below wr (.cells (stV z) 77)).mono hXw)))
       have Hcall:Hid (Calls Tryz.prog 35 #[.pointer (some ⟨P,0,none⟩),.pointer (some ⟨q,0,none⟩),.string s,.agg (stV z)] (wr.alloc (.cells (stV z) 77)).drew fun e w'=>OutP (wr.alloc (.cells (stV z) 77)).drew w' e (fun v=>R z v)):=
        hd (by rw[<-HRd.out];exact HI.out _ q qi z (HEa.out.below rfl ⟨rfl,rfl,rfl,Nat.le_refl _,fun _ _=>rfl⟩) Hq.out Hzo.out)
       have ca59:=(HC.out _ HEa.out).1
       have hiI:(i:Int)<(G.length:Int):=by omega
       have hi0:(0:Int)<=(i:Int):=by omega
       have hzn:=Hzo.out.pl
       clear hz
       obtain⟨gf2,rfl⟩:∃gf2,gk=gf2+1:=⟨gk-1,by omega⟩
       go_wp2_with (first
        |refine wpList_load_mid rfl 77 (.tmp 75) rfl gl (i*21) (by rfl) (stL z) _ HR1.out Hu.out rfl (Hi21.out z) ?_
        |(refine wpList_store_row rfl 77 (.tmp 17) (.tmp 76) rfl wr.heap.size (stV z) (by rfl) (by rfl) 77 _ (heap_alloc_new _ _) info_state rfl (stV_one z) ?_;rw[World.setRow_alloc_new]))
       simp only[Act.put]
       go_cut [73,84,85,86]from 73 to 107 (fun iv cv lv zv wx=>iv= .int .i64 i/\zv= .int .i64 0/\∃(C:List Ds) (ca:Option Addr) (cc:Nat),cv= .slice ca C.length cc/\lv= .int .i64 C.length/\Hid (Below (wr.heap.size+1) (wr.alloc (.cells (stV z) 77)) wx/\wx.ownsRow (wr.heap.size+1) 77 21 (.slice ca C.length cc) C.length (sts C)/\C.Nodup/\∀u,u∈C↔R z u))
       case first=>
        refine wp_region_any (by kernel_rfl) ?_
        change wpAny _ _ _ _ _ _ _ (World.drew _)
        have r2d:(wr.alloc (.cells (stV z) 77)).drew.rangeAt wr.heap.size 0 (stL z):=HR2.out
        have Hof:Hid (∀(w4:World) (C:List Ds) (v:Value),Below (wr.alloc (.cells (stV z) 77)).drew.heap.size (wr.alloc (.cells (stV z) 77)).drew w4->w4.ownsRow (wr.alloc (.cells (stV z) 77)).drew.heap.size 77 21 v C.length (sts C)->C.Nodup->(∀u,u∈C↔R z u)->Below (wr.heap.size+1) (wr.alloc (.cells (stV z) 77)) w4/\w4.ownsRow (wr.heap.size+1) 77 21 v C.length (sts C)/\C.Nodup/\∀u,u∈C↔R z u):=hd (fun w4 C v h1 h2 h3 h4=>by
         have e:(wr.alloc (.cells (stV z) 77)).drew.heap.size=wr.heap.size+1:=by show(wr.alloc _).heap.size=_;simp
         rw[e]at h1 h2
         exact⟨⟨h1.os,h1.tape,h1.output,h1.size,h1.block⟩,h2,h3,h4⟩)
        refine wpAny_takeL (i:=0) (v:= .pointer (some ⟨P,0,none⟩)) rfl (by kernel_rfl) (by kernel_rfl) (by kernel_rfl) (fun _ _ _ h=>h) (Or.inl ⟨by rfl,by intro w;go_simp⟩) ?_
        simp only[Act.put,List.setIfInBounds_toArray,List.set_cons_zero,List.set_cons_succ]
        refine wpAny_takeL (i:=1) (v:= .pointer (some ⟨b,0,none⟩)) rfl (by kernel_rfl) (by kernel_rfl) (by kernel_rfl) (fun _ _ _ h=>h) (Or.inl ⟨by rfl,by intro w;go_simp⟩) ?_
        simp only[Act.put,List.setIfInBounds_toArray,List.set_cons_zero,List.set_cons_succ]
        refine wpAny_takeL (i:=2) (v:= .pointer (some ⟨b,0,none⟩)) rfl (by kernel_rfl) (by kernel_rfl) (by kernel_rfl) (fun _ _ _ h=>h) (Or.inl ⟨by rfl,by intro w;go_simp⟩) ?_
        simp only[Act.put,List.setIfInBounds_toArray,List.set_cons_zero,List.set_cons_succ]
        refine wpAny_takeL (i:=3) (v:= .pointer (some ⟨b,259,none⟩)) rfl (by kernel_rfl) (by kernel_rfl) (by kernel_rfl) (fun _ _ _ h=>h) (Or.inl ⟨by rfl,by intro w;go_simp⟩) ?_
        simp only[Act.put,List.setIfInBounds_toArray,List.set_cons_zero,List.set_cons_succ]
        refine wpAny_takeL (i:=5) (v:= .string s) rfl (by kernel_rfl) (by kernel_rfl) (by kernel_rfl) (fun _ _ _ h=>h) (Or.inl ⟨by rfl,by intro w;go_simp⟩) ?_
        simp only[Act.put,List.setIfInBounds_toArray,List.set_cons_zero,List.set_cons_succ]
        refine wpAny_takeL (i:=9) (v:= .int .i64 0) rfl (by kernel_rfl) (by kernel_rfl) (by kernel_rfl) (fun _ _ _ h=>h) (Or.inl ⟨by rfl,by intro w;go_simp⟩) ?_
        simp only[Act.put,List.setIfInBounds_toArray,List.set_cons_zero,List.set_cons_succ]
        refine wpAny_ready (rs:= [4,6]) (by kernel_rfl) (by simp) ?_
        refine AllReady.consL rfl (fun K hK=>?_) ?_
        ·go_simp
         refine hK _ _ ?_
         clear hK K
         refine wpAny_ready (rs:= [6]) (by kernel_rfl) (by simp) ?_
         refine AllReady.consL rfl (fun K hK=>?_) AllReady.nil
         refine step_load_mid rfl 77 (.tmp 17) rfl wr.heap.size 0 (by rfl) (stL z) _ r2d Hu.out rfl (Hi21.out z) ?_
         refine hK _ _ ?_
         clear hK K
         simp only[Act.put,List.setIfInBounds_toArray,List.set_cons_zero,List.set_cons_succ]
         refine wpAny_ready (rs:= [7]) (by kernel_rfl) (by simp) ?_
         refine AllReady.consL rfl (fun K hK=>?_) AllReady.nil
         go_simp
         refine Hcall.out.mono ?_
         rintro e w4 ⟨C,cv,rfl,hb4,ho4,hn4,hm4⟩
         obtain⟨ca,cc,rfl⟩:=owns_shape ho4
         have HR4:=hd (show Below (wr.heap.size+1) (wr.alloc (.cells (stV z) 77)) w4/\w4.ownsRow (wr.heap.size+1) 77 21 (.slice ca C.length cc) C.length (sts C)/\C.Nodup/\∀u,u∈C↔R z u from Hof.out w4 C _ hb4 ho4 hn4 hm4)
         have hcn:C.length<=2000000000:=(all_count Hfit.out hn4 (fun u hu=>(HKp.out z u Hzo.out ((hm4 u).1 hu)).1)).1
         clear hb4 ho4 hn4 hm4
         go_wp2_with fail
         refine wpAny_takeL (i:=8) (v:= .int .i64 C.length) rfl (by kernel_rfl) (by kernel_rfl) (by kernel_rfl) (fun _ _ _ h=>h) (Or.inl ⟨by rfl,by intro w;go_simp⟩) ?_
         simp only[Act.put,List.setIfInBounds_toArray,List.set_cons_zero,List.set_cons_succ]
         refine wpAny_done (by kernel_rfl) ?_ _
         go_wp2_with fail
         go_meet
         case rel=>exact⟨rfl,rfl,C,ca,cc,rfl,rfl,HR4⟩
        refine AllReady.consL rfl (fun K hK=>?_) AllReady.nil
        refine step_load_mid rfl 77 (.tmp 17) rfl wr.heap.size 0 (by rfl) (stL z) _ r2d Hu.out rfl (Hi21.out z) ?_
        refine hK _ _ ?_
        clear hK K
        simp only[Act.put,List.setIfInBounds_toArray,List.set_cons_zero,List.set_cons_succ]
        refine wpAny_ready (rs:= [4]) (by kernel_rfl) (by simp) ?_
        refine AllReady.consL rfl (fun K hK=>?_) AllReady.nil
        go_simp
        refine hK _ _ ?_
        clear hK K
        refine wpAny_ready (rs:= [7]) (by kernel_rfl) (by simp) ?_
        refine AllReady.consL rfl (fun K hK=>?_) AllReady.nil
        go_simp
        refine Hcall.out.mono ?_
        rintro e w4 ⟨C,cv,rfl,hb4,ho4,hn4,hm4⟩
        obtain⟨ca,cc,rfl⟩:=owns_shape ho4
        have HR4:=hd (show Below (wr.heap.size+1) (wr.alloc (.cells (stV z) 77)) w4/\w4.ownsRow (wr.heap.size+1) 77 21 (.slice ca C.length cc) C.length (sts C)/\C.Nodup/\∀u,u∈C↔R z u from Hof.out w4 C _ hb4 ho4 hn4 hm4)
        have hcn:C.length<=2000000000:=(all_count Hfit.out hn4 (fun u hu=>(HKp.out z u Hzo.out ((hm4 u).1 hu)).1)).1
        clear hb4 ho4 hn4 hm4
        go_wp2_with fail
        refine wpAny_takeL (i:=8) (v:= .int .i64 C.length) rfl (by kernel_rfl) (by kernel_rfl) (by kernel_rfl) (fun _ _ _ h=>h) (Or.inl ⟨by rfl,by intro w;go_simp⟩) ?_
        simp only[Act.put,List.setIfInBounds_toArray,List.set_cons_zero,List.set_cons_succ]
        refine wpAny_done (by kernel_rfl) ?_ _
        go_wp2_with fail
        go_meet
        case rel=>exact⟨rfl,rfl,C,ca,cc,rfl,rfl,HR4⟩
       case rest=>
        obtain⟨rfl,rfl,C,ca,cc,rfl,rfl,H4⟩:=hcut
        have hsza:(wr.alloc (.cells (stV z) 77)).heap.size=wr.heap.size+1:=by simp
        have Hb4:Hid (Below (wr.alloc (.cells (stV z) 77)).heap.size (wr.alloc (.cells (stV z) 77)) wc):=hd (by rw[hsza];exact H4.out.1)
        have HIn4:Hid (DIn X T2 w wc tg N (fun v=>∃z∈G.take i,R z v/\(k<m\/z.1<v.1))):=hd ((HIn.out.below hXw (alloc_below wr _)).below (by simp;omega) Hb4.out)
        have HK4:Hid (Kps wc tg X (.slice (some ⟨gl,0,none⟩) G.length gc) G):=hd ((HK.out.below (alloc_below wr _)).below Hb4.out)
        have HS4:Hid (Sts wc TO TO tg' O'):=hd ((HSo.out.below (alloc_below wr _)).below Hb4.out)
        have hunt:∀q,wr.heap.size<=q->tg q=none:=fun q hq2=>by
         cases e:tg q with
         |none=>rfl
         |some y=>have:=(HIn.out.st.tl q (by rw[e];simp)).2;omega
        have HC4:Hid (Kps wc tg (wr.heap.size+1) (.slice ca C.length cc) C):=hd ⟨H4.out.2.1,fun q hq2=>hunt q (by have:=(H4.out.2.1.lt q hq2).1;omega)⟩
        have HZ4:Hid (wc.heap[wr.heap.size]?=some (.cells (stV z) 77 (0,0))/\tg wr.heap.size=none):=hd ⟨(H4.out.1.block _ (by omega)).trans (heap_alloc_new wr _),hunt _ (Nat.le_refl _)⟩
        have hT4:T2<wc.heap.size:=by have:=Hb4.out.size;rw[hsza]at this;omega
        have Hmc:=hd H4.out.2.2.2
        have HCok:Hid (∀u∈C,OkD s.size rf u):=hd (fun u hu=>(HKp.out z u Hzo.out ((H4.out.2.2.2 u).1 hu)).1)
        have hCn:C.length<=2000000000:=(all_count Hfit.out H4.out.2.2.1 HCok.out).1
        have hCI:(C.length:Int)<=2000000000:=by omega
        have HNok:Hid (∀v,(∃z∈G.take i,R z v/\(k<m\/z.1<v.1))->OkD s.size rf v):=hd (fun v hv=>by
         obtain⟨z,h1,h2,_⟩:=hv
         exact(HKp.out z v (HGok.out z (List.mem_of_mem_take h1)) h2).1)
        have Hunt:Hid (∀(tg4:Nat->Option Nat) (T:Nat) (wq:World) {N4:List Ds},Sts wq T2 T tg4 N4->∀q,tg' q≠none->tg4 q=none):=hd (fun tg4 T wq N4 hs q hq2=>by
         have:=Htl2.out q hq2
         cases e:tg4 q with
         |none=>rfl
         |some y=>have:=(hs.tl q (by rw[e];simp)).1;omega)
        generalize hzb:wr.heap.size=zb at*
        have hzbw:zb+1<=wc.heap.size:=by have:=Hb4.out.size;rw[hsza]at this;exact this
        clear hzb Hb4 H4 hunt hsza HIn HK HSo HR1 HR2 Hcall HEa ca59 hXw hTs
        go_wp2_with fail
        go_loopg [86] (C.length+1) (fun f jv w5=>∃(j:Nat) (N':List Ds) (tg4:Nat->Option Nat),jv= .int .i64 j/\j<=C.length/\C.length<j+f/\T2<w5.heap.size/\Hid (DIn X T2 w w5 tg4 N' (fun v=>(∃z∈G.take i,R z v/\(k<m\/z.1<v.1))\/(v∈C.take j/\(k<m\/z.1<v.1))))/\Hid (Kps w5 tg4 X (.slice (some ⟨gl,0,none⟩) G.length gc) G)/\Hid (Kps w5 tg4 (zb+1) (.slice ca C.length cc) C)/\Hid (Sts w5 TO TO tg' O')/\Hid (w5.heap[zb]?=some (.cells (stV z) 77 (0,0))/\tg4 zb=none))
        case atStart=>exact⟨0,N,tg,rfl,by omega,by omega,hT4,hd (HIn4.out.cg (fun v=>by simp)),HK4,HC4,HS4,HZ4⟩
        case round=>
         clear HIn4 HK4 HC4 HS4 HZ4 hT4 hzbw
         obtain⟨j,N',tg4,rfl,hj,hjf,hT5,HIn,HK,HC4,HS,HZ⟩:=hrel
         by_cases hjl:j<C.length
         ·obtain⟨gc4,rfl⟩:=owns_some HC4.out.1 (by omega)
          obtain⟨u,hu⟩:∃u,u=C[j]:=⟨_,rfl⟩
          have HR1:Hid (wr.rangeAt gc4 (j*21) (stL u)):=hd (by rw[hu];exact range_at HC4.out.1 hjl)
          have HR2:=hd (range_new wr u)
          have Huo:Hid (OkD s.size rf u):=hd (HCok.out u (by rw[hu];exact List.getElem_mem hjl))
          have Htkj:Hid (∀v,v∈C.take (j+1)↔v∈C.take j\/v=u):=hd (fun v=>by rw[hu];exact mem_take_succ hjl v)
          have hXw:X<=wr.heap.size:=by omega
          have HIa:=hd (HIn.out.below hXw (alloc_below wr (.cells (stV u) 77)))
          have HKa:=hd (HK.out.below (alloc_below wr (.cells (stV u) 77)))
          have HCa:=hd (HC4.out.below (alloc_below wr (.cells (stV u) 77)))
          have HSa:=hd (HS.out.below (alloc_below wr (.cells (stV u) 77)))
          have hcnt:=all_count Hfit.out HIn.out.nd (fun v hv=>by
           rcases(HIn.out.mem v).1 hv with h|h
           ·exact HNok.out v h
           ·exact HCok.out v (List.mem_of_mem_take h.1))
          have Hcall:=hd (dadd_any HIa.out.st hcnt.2 u (Huo.out.okH Hn9.out) hcnt.1 (by simp;omega))
          have c60:=(HC.out _ (HE.out.below HX.out.symm HIa.out.bl)).2.1
          have cu0:(wr.alloc (.cells (stV u) 77)).cell? ⟨wr.heap.size,0,none⟩=some (.int .i64 u.1):=by
           rw[cell_of_row _ _ 0 (stV u) _ _ (heap_alloc_new wr _)];exact stV_0 u
          have cz0:(wr.alloc (.cells (stV u) 77)).cell? ⟨zb,0,none⟩=some (.int .i64 z.1):=by
           have hlt:zb<wr.heap.size:=(Array.getElem?_eq_some_iff.1 HZ.out.1).1
           rw[cell_of_row _ _ 0 (stV z) _ _ ((Below.heap_alloc _ _ _ hlt).trans HZ.out.1)];exact stV_0 z
          have hjI:(j:Int)<(C.length:Int):=by omega
          have hj0:(0:Int)<=(j:Int):=by omega
          clear hu hcnt
          obtain⟨gf3,rfl⟩:∃gf3,gk=gf3+1:=⟨gk-1,by omega⟩
          by_cases hkm:k<m
          ·have hkmI:(k:Int)<(m:Int):=by omega
           have hcond:k<m\/z.1<u.1:= .inl hkm
           go_wp2_with (first
            |refine wpList_load_mid rfl 77 (.tmp 88) rfl gc4 (j*21) (by rfl) (stL u) _ HR1.out Hu.out rfl (Hi21.out u) ?_
            |(refine wpList_store_row rfl 77 (.tmp 19) (.tmp 89) rfl wr.heap.size (stV u) (by rfl) (by rfl) 77 _ (heap_alloc_new _ _) info_state rfl (stV_one u) ?_;rw[World.setRow_alloc_new])
            |refine wpList_load_mid rfl 77 (.tmp 19) rfl wr.heap.size 0 (by rfl) (stL u) _ HR2.out Hu.out rfl (Hi21.out u) ?_
            |(go_at_call 36;refine Hcall.out.mono ?_;rintro e w7 ⟨rfl,tg7,hs7,hg7⟩))
           have HI7:=hd ((HIa.out.add (by simp;omega) hXT2 hs7 hg7).cg (M':=fun v=>(∃z∈G.take i,R z v/\(k<m\/z.1<v.1))\/(v∈C.take (j+1)/\(k<m\/z.1<v.1))) (fun v=>by
            rw[Htkj.out v]
            constructor
            ·rintro((h|h)|rfl)
             ·exact .inl h
             ·exact .inr ⟨.inl h.1,h.2⟩
             ·exact .inr ⟨.inr rfl,hcond⟩
            ·rintro(h|⟨h|h,h2⟩)
             ·exact .inl (.inl h)
             ·exact .inl (.inr ⟨h,h2⟩)
             ·exact .inr h))
           have HK7:=hd (HKa.out.gro hg7)
           have HC7:=hd (HCa.out.gro hg7)
           have HS7:Hid (Sts w7 TO TO tg' O'):=hd (HSa.out.gro2 hg7 (fun k hk=>Hunt.out tg4 T2 _ HIn.out.st k hk))
           have HZ7:Hid (w7.heap[zb]?=some (.cells (stV z) 77 (0,0))/\tg7 zb=none):=hd (by
            have hlt:zb<wr.heap.size:=(Array.getElem?_eq_some_iff.1 HZ.out.1).1
            refine⟨(hg7.block zb (by simp;omega) HZ.out.2).trans ((Below.heap_alloc _ _ _ hlt).trans HZ.out.1),?_⟩
            cases e:tg7 zb with
            |none=>rfl
            |some y=>
             rcases hg7.tag zb (by rw[e];simp)with h1|h1
             ·exact absurd HZ.out.2 h1
             ·simp at h1;omega)
           have hT7:T2<w7.heap.size:=by have:=hg7.size;simp at this;omega
           clear hs7 hg7 Hcall HIa HKa HCa HSa
           go_roundg gf3
           case measure=>omega
           case rel=>exact⟨j+1,_,tg7,by go_num,by omega,by omega,hT7,HI7,HK7,HC7,HS7,HZ7⟩
          ·have hkmI:¬(k:Int)<(m:Int):=by omega
           by_cases hzu:z.1<u.1
           ·have hzuI:(z.1:Int)<(u.1:Int):=by omega
            have hcond:k<m\/z.1<u.1:= .inr hzu
            go_wp2_with (first
             |refine wpList_load_mid rfl 77 (.tmp 88) rfl gc4 (j*21) (by rfl) (stL u) _ HR1.out Hu.out rfl (Hi21.out u) ?_
             |(refine wpList_store_row rfl 77 (.tmp 19) (.tmp 89) rfl wr.heap.size (stV u) (by rfl) (by rfl) 77 _ (heap_alloc_new _ _) info_state rfl (stV_one u) ?_;rw[World.setRow_alloc_new])
             |refine wpList_load_mid rfl 77 (.tmp 19) rfl wr.heap.size 0 (by rfl) (stL u) _ HR2.out Hu.out rfl (Hi21.out u) ?_
             |(go_at_call 36;refine Hcall.out.mono ?_;rintro e w7 ⟨rfl,tg7,hs7,hg7⟩))
            have HI7:=hd ((HIa.out.add (by simp;omega) hXT2 hs7 hg7).cg (M':=fun v=>(∃z∈G.take i,R z v/\(k<m\/z.1<v.1))\/(v∈C.take (j+1)/\(k<m\/z.1<v.1))) (fun v=>by
             rw[Htkj.out v]
             constructor
             ·rintro((h|h)|rfl)
              ·exact .inl h
              ·exact .inr ⟨.inl h.1,h.2⟩
              ·exact .inr ⟨.inr rfl,hcond⟩
             ·rintro(h|⟨h|h,h2⟩)
              ·exact .inl (.inl h)
              ·exact .inl (.inr ⟨h,h2⟩)
              ·exact .inr h))
            have HK7:=hd (HKa.out.gro hg7)
            have HC7:=hd (HCa.out.gro hg7)
            have HS7:Hid (Sts w7 TO TO tg' O'):=hd (HSa.out.gro2 hg7 (fun k hk=>Hunt.out tg4 T2 _ HIn.out.st k hk))
            have HZ7:Hid (w7.heap[zb]?=some (.cells (stV z) 77 (0,0))/\tg7 zb=none):=hd (by
             have hlt:zb<wr.heap.size:=(Array.getElem?_eq_some_iff.1 HZ.out.1).1
             refine⟨(hg7.block zb (by simp;omega) HZ.out.2).trans ((Below.heap_alloc _ _ _ hlt).trans HZ.out.1),?_⟩
             cases e:tg7 zb with
             |none=>rfl
             |some y=>
              rcases hg7.tag zb (by rw[e];simp)with h1|h1
              ·exact absurd HZ.out.2 h1
              ·simp at h1;omega)
            have hT7:T2<w7.heap.size:=by have:=hg7.size;simp at this;omega
            clear hs7 hg7 Hcall HIa HKa HCa HSa
            go_roundg gf3
            case measure=>omega
            case rel=>exact⟨j+1,_,tg7,by go_num,by omega,by omega,hT7,HI7,HK7,HC7,HS7,HZ7⟩
           ·have hzuI:¬(z.1:Int)<(u.1:Int):=by omega
            have hcond:¬(k<m\/z.1<u.1):=by omega
            go_wp2_with (first
             |refine wpList_load_mid rfl 77 (.tmp 88) rfl gc4 (j*21) (by rfl) (stL u) _ HR1.out Hu.out rfl (Hi21.out u) ?_
             |(refine wpList_store_row rfl 77 (.tmp 19) (.tmp 89) rfl wr.heap.size (stV u) (by rfl) (by rfl) 77 _ (heap_alloc_new _ _) info_state rfl (stV_one u) ?_;rw[World.setRow_alloc_new])
             |refine wpList_load_mid rfl 77 (.tmp 19) rfl wr.heap.size 0 (by rfl) (stL u) _ HR2.out Hu.out rfl (Hi21.out u) ?_
             |(go_at_call 36;refine Hcall.out.mono ?_;rintro e w7 ⟨rfl,tg7,hs7,hg7⟩))
            have HI7:=hd (HIa.out.cg (M':=fun v=>(∃z∈G.take i,R z v/\(k<m\/z.1<v.1))\/(v∈C.take (j+1)/\(k<m\/z.1<v.1))) (fun v=>by
             rw[Htkj.out v]
             constructor
             ·rintro(h|h)
              ·exact .inl h
              ·exact .inr ⟨.inl h.1,h.2⟩
             ·rintro(h|⟨h|rfl,h2⟩)
              ·exact .inl h
              ·exact .inr ⟨h,h2⟩
              ·exact absurd h2 hcond))
            have HZ7:Hid ((wr.alloc (.cells (stV u) 77)).heap[zb]?=some (.cells (stV z) 77 (0,0))/\tg4 zb=none):=hd (by
             have hlt:zb<wr.heap.size:=(Array.getElem?_eq_some_iff.1 HZ.out.1).1
             exact⟨(Below.heap_alloc _ _ _ hlt).trans HZ.out.1,HZ.out.2⟩)
            clear Hcall
            go_roundg gf3
            case measure=>omega
            case rel=>exact⟨j+1,_,tg4,by go_num,by omega,by omega,by simp;omega,HI7,HKa,HCa,HSa,HZ7⟩
         ·obtain rfl:j=C.length:=by omega
          have HI8:=hd (HIn.out.cg (M':=fun v=>∃z∈G.take (i+1),R z v/\(k<m\/z.1<v.1)) (fun v=>by
           rw[List.take_length,Hmc.out v]
           constructor
           ·rintro(⟨q,h1,h2⟩|h)
            ·exact⟨q,(Htki.out q).2 (.inl h1),h2⟩
            ·exact⟨z,(Htki.out z).2 (.inr rfl),h⟩
           ·rintro⟨q,h1,h2⟩
            rcases(Htki.out q).1 h1 with h|rfl
            ·exact .inl ⟨q,h,h2⟩
            ·exact .inr h2))
          go_wp2
          go_roundg gf2
          case measure=>omega
          case rel=>exact⟨i+1,N',tg4,by go_num,by omega,by omega,hT5,HI8,HK,HS⟩
      ·obtain rfl:i=G.length:=by omega
       obtain⟨vl,hvl,hol,htl⟩:=HIn.out.st.cl
       obtain⟨na,nc,rfl⟩:=owns_shape hol
       have HT2:Hid (N.Nodup/\TmD R m mx x (k+1) N O'):=hd ⟨HIn.out.nd,HTn.out N (fun v=>by rw[HIn.out.mem v,List.take_length])⟩
       have HIo:Hid (DIn X TO w wr tg' O' (fun v=>v∈O')):=hd ⟨HIn.out.bl,HSo.out,HOn.out,fun v=>Iff.rfl⟩
       have HKo:Hid (Kps wr tg' X (.slice na N.length nc) N):=hd ⟨owns_base hol hXT2,fun q hq2=>by
        cases e:tg' q with
        |none=>rfl
        |some y=>
         have h1:=Htl2.out q (by rw[e];simp)
         have h2:=(hol.lt q hq2).1
         omega⟩
       have hTO2:TO<wr.heap.size:=cell_T HSo.out
       have hk2:=Hk1.out
       clear hol htl
       go_wp2
       go_roundg gf
       case measure=>omega
       case rel=>exact⟨k+1,N,O',na,nc,tg',by go_num,rfl,by omega,by omega,hTO2,HIo,HKo,HT2⟩
end Go.Proofs.YtldiemjlpnachaaGreatDoor

import Derived.Test.YtldiemjlpnachaaGreatDoorTi
import Derived.Test.YtldiemjlpnachaaGreatDoorRMem
import Derived.Test.YtldiemjlpnachaaGreatDoorRStr
set_option maxHeartbeats 3200000
set_option maxRecDepth 100000
namespace Go.Proofs.YtldiemjlpnachaaGreatDoor
open Go.RowKit
theorem outP_nil{w w':World}{M:Ds->Prop}(hb:Below w.heap.size w w')(hM:∀u,¬M u):OutP w w' (.returned (.slice none 0 0)) M:=
 ⟨[],_,rfl,hb,World.ownsRow_nil _ _ _ _,by simp,fun u=>⟨fun h=>by simp at h,fun h=>absurd h (hM u)⟩⟩
theorem outP_one{w w':World}{M:Ds->Prop}{d:Ds}(hb:Below w.heap.size w w')(hs:w.heap.size<=w'.heap.size)(hM:∀u,M u↔u=d):OutP w (w'.alloc (.cells (stV d) 77)) (.returned (.slice (some ⟨w'.heap.size,0,none⟩) 1 1)) M:=
 ⟨[d],_,rfl,hb.trans ((alloc_below w' _).mono hs),owns_one d hs,by simp,fun u=>by rw[List.mem_singleton];exact(hM u).symm⟩
section
variable {H : Fins} {s : ByteArray} {rf : List Nat} {P : Nat}
theorem ditem_beg(w:World)(b:Nat)(x:Ds)(arr:Array Value)(hE:Env w H P rf)(hb:H b=some arr)(h0:arr[0]?=some (.string ⟨#[94]⟩)):
  Calls Tryz.prog 35 #[.pointer (some ⟨P,0,none⟩),.pointer (some ⟨b,0,none⟩),.string s,.agg (stV x)] w fun e w'=>OutP w w' e (fun v=>Md s.data.toList rf .beg x v):=by
 have hEa:=hE.below rfl (alloc_below w (.cells (stV x) 77))
 have cb:=hEa.fin.cell hb h0
 have cx:(w.alloc (.cells (stV x) 77)).cell? ⟨w.heap.size,0,none⟩=some (.int .i64 x.1):=by
  rw[cell_of_row _ _ 0 (stV x) _ _ (heap_alloc_new w _)];exact stV_0 x
 have HR:=hd (range_new w x)
 have Hu:=hd und_state.choose_spec
 have HF1:Hid (x.1=0->OutP w ((w.alloc (.cells (stV x) 77)).alloc (.cells (stV x) 77)) (.returned (.slice (some ⟨w.heap.size+1,0,none⟩) 1 1)) (fun v=>Md s.data.toList rf .beg x v)):=hd (fun h=>by
  have:=outP_one (M:=fun v=>Md s.data.toList rf .beg x v) (d:=x) (alloc_below w (.cells (stV x) 77)) (by simp) (fun u=>by simp[Md,h])
  rw[show(w.alloc (.cells (stV x) 77)).heap.size=w.heap.size+1 by simp]at this
  exact this)
 have HF0:Hid (x.1≠0->OutP w (w.alloc (.cells (stV x) 77)) (.returned (.slice none 0 0)) (fun v=>Md s.data.toList rf .beg x v)):=hd (fun h=>outP_nil (alloc_below w _) (fun u hu=>by simp only[Md]at hu;exact h hu.1))
 clear hE hEa hb h0
 by_cases h:x.1=0
 ·have hb1:((x.1:Int)==0)=true:=beq_iff_eq.2 (by omega)
  have HF:=hd (HF1.out h)
  clear h HF1 HF0
  go_enter Tryz.func35,Tryz.ntmps35
  go_wp2_with (first
   |refine wp_stx (.tmp 3) (stV x) rfl rfl rfl ?_
   |refine wpList_load_mid rfl 77 (.tmp 7) rfl w.heap.size 0 (by rfl) (stL x) _ HR.out Hu.out rfl info_state ?_
   |refine wp_one (.tmp 47) x rfl rfl (by rfl) ?_)
  go_ret
  exact HF.out
 ·have hb1:((x.1:Int)==0)=false:=beq_eq_false_iff_ne.2 (by omega)
  have HF:=hd (HF0.out h)
  clear h HF1 HF0
  go_enter Tryz.func35,Tryz.ntmps35
  go_wp2_with (first
   |refine wp_stx (.tmp 3) (stV x) rfl rfl rfl ?_)
  go_ret
  exact HF.out
theorem ditem_fin(w:World)(b:Nat)(x:Ds)(arr:Array Value)(_hn:s.size<=1000000000)(hE:Env w H P rf)(hb:H b=some arr)(h0:arr[0]?=some (.string ⟨#[36]⟩)):
  Calls Tryz.prog 35 #[.pointer (some ⟨P,0,none⟩),.pointer (some ⟨b,0,none⟩),.string s,.agg (stV x)] w fun e w'=>OutP w w' e (fun v=>Md s.data.toList rf (.fin) x v):=by
 have hEa:=hE.below rfl (alloc_below w (.cells (stV x) 77))
 have cb:=hEa.fin.cell hb h0
 have cx:(w.alloc (.cells (stV x) 77)).cell? ⟨w.heap.size,0,none⟩=some (.int .i64 x.1):=by
  rw[cell_of_row _ _ 0 (stV x) _ _ (heap_alloc_new w _)];exact stV_0 x
 have HR:=hd (range_new w x)
 have Hu:=hd und_state.choose_spec
 have HF1:Hid (x.1=s.size->OutP w ((w.alloc (.cells (stV x) 77)).alloc (.cells (stV x) 77)) (.returned (.slice (some ⟨w.heap.size+1,0,none⟩) 1 1)) (fun v=>Md s.data.toList rf (.fin) x v)):=hd (fun h=>by
  have:=outP_one (M:=fun v=>Md s.data.toList rf (.fin) x v) (d:=x) (alloc_below w (.cells (stV x) 77)) (by simp) (fun u=>by simp only[Md];rw[len_data];simp[h])
  rw[show(w.alloc (.cells (stV x) 77)).heap.size=w.heap.size+1 by simp]at this
  exact this)
 have HF0:Hid (x.1≠s.size->OutP w (w.alloc (.cells (stV x) 77)) (.returned (.slice none 0 0)) (fun v=>Md s.data.toList rf (.fin) x v)):=hd (fun h=>outP_nil (alloc_below w _) (fun u hu=>by simp only[Md]at hu;rw[len_data]at hu;exact h hu.1))
 clear hE hEa hb h0
 by_cases h:x.1=s.size
 ·have hb1:((x.1:Int)==(s.size:Int))=true:=beq_iff_eq.2 (by omega)
  have HF:=hd (HF1.out h)
  clear h HF1 HF0
  go_enter Tryz.func35,Tryz.ntmps35
  go_wp2_with (first
   |refine wp_stx (.tmp 3) (stV x) rfl rfl rfl ?_
   |refine wpList_load_mid rfl 77 (.tmp 7) rfl w.heap.size 0 (by rfl) (stL x) _ HR.out Hu.out rfl info_state ?_
   |refine wp_one (.tmp 56) x rfl rfl (by rfl) ?_)
  go_ret
  exact HF.out
 ·have hb1:((x.1:Int)==(s.size:Int))=false:=beq_eq_false_iff_ne.2 (by omega)
  have HF:=hd (HF0.out h)
  clear h HF1 HF0
  go_enter Tryz.func35,Tryz.ntmps35
  go_wp2_with (first
   |refine wp_stx (.tmp 3) (stV x) rfl rfl rfl ?_)
  go_ret
  exact HF.out
theorem stV_put(x:Ds)(p:Nat)(z:Int)(hz:z=p):(stV x).setIfInBounds 0 (.int .i64 z)=stV (p,x.2):=by
 subst hz
 kernel_rfl
theorem range_put{w:World}{X:Nat}{x:Ds}{t:TypeId}(h:w.heap[X]?=some (.cells (stV x) t (0,0)))(p:Nat)(z:Int)(hz:z=p):(w.setCell ⟨X,0,none⟩ (.int .i64 z)).rangeAt X 0 (stL (p,x.2)):=by
 have h2:=heap_setCell_self (i:=0) h (.int .i64 z)
 rw[stV_put x p z hz]at h2
 have:=World.rangeAt_of_block h2 0 21
 rw[show((stV (p,x.2)).extract 0 (0+21)).toList=stL (p,x.2) by kernel_rfl]at this
 exact this
theorem ditem_byte(w:World)(b:Nat)(x:Ds)(arr:Array Value)(f:Nat->Bool)(hn:s.size<=1000000000)(hE:Env w H P rf)(hb:H b=some arr)(h0:arr[0]?=some (.string ⟨#[98,121,116,101]⟩))(hf:∀c,c<256->arr[1+c]?=some (.bool (f c))):
  Calls Tryz.prog 35 #[.pointer (some ⟨P,0,none⟩),.pointer (some ⟨b,0,none⟩),.string s,.agg (stV x)] w fun e w'=>OutP w w' e (fun v=>Md s.data.toList rf (.one f) x v):=by
 have hEa:=hE.below rfl (alloc_below w (.cells (stV x) 77))
 have cb:=hEa.fin.cell hb h0
 have cx:(w.alloc (.cells (stV x) 77)).cell? ⟨w.heap.size,0,none⟩=some (.int .i64 x.1):=by
  rw[cell_of_row _ _ 0 (stV x) _ _ (heap_alloc_new w _)];exact stV_0 x
 have fx:(w.alloc (.cells (stV x) 77)).frozen? ⟨w.heap.size,0,none⟩=false:=by
  have hb:=heap_alloc_new w (.cells (stV x) 77)
  unfold World.frozen?
  rw[hb]
  simp
 have Hu:=hd und_state.choose_spec
 by_cases hlt:x.1<s.size
 ·have hltI:(x.1:Int)<(s.size:Int):=by omega
  have h0I:(0:Int)<=(x.1:Int):=by omega
  have hc:(w.alloc (.cells (stV x) 77)).cell? ⟨b,1+s[x.1].toNat,none⟩=some (.bool (f s[x.1].toNat)):=hEa.fin.cell hb (hf _ (UInt8.toNat_lt s[x.1]))
  have hch:=ch_get s x.1 hlt
  have hcl:=UInt8.toNat_lt s[x.1]
  cases hfc:f s[x.1].toNat
  ·rw[hfc]at hc
   have HF:Hid (∀n,OutP w ((w.alloc (.cells (stV x) 77)).drewN n) (.returned (.slice none 0 0)) (fun v=>Md s.data.toList rf (.one f) x v)):=hd (fun n=>by
    have hbw:=alloc_below w (.cells (stV x) 77)
    refine outP_nil ⟨hbw.os,hbw.tape,hbw.output,hbw.size,hbw.block⟩ (fun u hu=>?_)
    simp only[Md]at hu
    rw[<-hch,hfc]at hu
    exact absurd hu.2.1 (by simp))
   clear hE hEa hb h0 hf hch hfc
   go_enter Tryz.func35,Tryz.ntmps35
   go_wp2_with (first
    |refine wp_stx (.tmp 3) (stV x) rfl rfl rfl ?_)
   go_quiet (fail)
   go_wp2
   go_ret
   exact HF.out _
  ·rw[hfc]at hc
   have HR:Hid (∀n,(((w.alloc (.cells (stV x) 77)).drewN n).setCell ⟨w.heap.size,0,none⟩ (.int .i64 ((x.1:Int)+1))).rangeAt w.heap.size 0 (stL (x.1+1,x.2))):=hd (fun n=>range_put (w:=(w.alloc (.cells (stV x) 77)).drewN n) (heap_alloc_new w _) (x.1+1) _ (by omega))
   have HF:Hid (∀n,OutP w ((((w.alloc (.cells (stV x) 77)).drewN n).setCell ⟨w.heap.size,0,none⟩ (.int .i64 ((x.1:Int)+1))).alloc (.cells (stV (x.1+1,x.2)) 77)) (.returned (.slice (some ⟨w.heap.size+1,0,none⟩) 1 1)) (fun v=>Md s.data.toList rf (.one f) x v)):=hd (fun n=>by
    have hbw:=alloc_below w (.cells (stV x) 77)
    have hb2:Below w.heap.size w (((w.alloc (.cells (stV x) 77)).drewN n).setCell ⟨w.heap.size,0,none⟩ (.int .i64 ((x.1:Int)+1))):=(show Below w.heap.size w ((w.alloc (.cells (stV x) 77)).drewN n)from⟨hbw.os,hbw.tape,hbw.output,hbw.size,hbw.block⟩).setCell (p:=⟨w.heap.size,0,none⟩) (Nat.le_refl _) _
    have hsz:(((w.alloc (.cells (stV x) 77)).drewN n).setCell ⟨w.heap.size,0,none⟩ (.int .i64 ((x.1:Int)+1))).heap.size=w.heap.size+1:=by
     simp only[World.setCell,Array.size_modify]
     show(w.alloc _).heap.size=_
     simp
    have:=outP_one (M:=fun v=>Md s.data.toList rf (.one f) x v) (d:=(x.1+1,x.2)) hb2 (by rw[hsz];omega) (fun u=>by
     simp only[Md]
     rw[<-hch,hfc,len_data]
     simp[hlt])
    rw[hsz]at this
    exact this)
   clear hE hEa hb h0 hf hch hfc
   go_enter Tryz.func35,Tryz.ntmps35
   go_wp2_with (first
    |refine wp_stx (.tmp 3) (stV x) rfl rfl rfl ?_)
   go_quiet (fail)
   go_wp2_with (first
    |refine wpList_load_mid rfl 77 (.tmp 7) rfl w.heap.size 0 (by rfl) (stL (x.1+1,x.2)) _ (HR.out _) Hu.out rfl info_state ?_
    |refine wp_one (.tmp 40) (x.1+1,x.2) rfl rfl (by rfl) ?_)
   go_ret
   exact HF.out _
 ·have hltI:¬(x.1:Int)<(s.size:Int):=by omega
  have HF:Hid (∀n,OutP w ((w.alloc (.cells (stV x) 77)).drewN n) (.returned (.slice none 0 0)) (fun v=>Md s.data.toList rf (.one f) x v)):=hd (fun n=>by
   have hbw:=alloc_below w (.cells (stV x) 77)
   refine outP_nil ⟨hbw.os,hbw.tape,hbw.output,hbw.size,hbw.block⟩ (fun u hu=>?_)
   simp only[Md]at hu
   rw[len_data]at hu
   exact hlt hu.1)
  clear hE hEa hb h0 hf
  go_enter Tryz.func35,Tryz.ntmps35
  go_wp2_with (first
   |refine wp_stx (.tmp 3) (stV x) rfl rfl rfl ?_)
  go_quiet (fail)
  go_wp2
  go_ret
  exact HF.out _
end
end Go.Proofs.YtldiemjlpnachaaGreatDoor
namespace Go.Proofs.YtldiemjlpnachaaGreatDoor
open Go.RowKit
theorem stands_sw{l:List UInt8}{a b i:Nat}(hb:b<=l.length)(hi:i<=l.length):sw l i ((l.drop a).take (b-a))=true↔Stands l a b i:=by
 have hlen:((l.drop a).take (b-a)).length=b-a:=by simp;omega
 unfold sw Stands
 rw[beq_iff_eq,hlen]
 have key:∀t,t<b-a->((l.drop i).take (b-a))[t]?=l[i+t]?/\((l.drop a).take (b-a))[t]?=l[a+t]?:=fun t ht=>by
  rw[List.getElem?_take_of_lt ht,List.getElem?_take_of_lt ht,List.getElem?_drop,List.getElem?_drop]
  exact⟨rfl,rfl⟩
 constructor
 ·intro h
  have hl:=congrArg List.length h
  rw[hlen]at hl
  simp only[List.length_take,List.length_drop]at hl
  refine⟨by omega,fun t ht=>?_⟩
  have:=congrArg (fun q:List UInt8=>q[t]?) h
  simp only[(key t ht).1,(key t ht).2]at this
  unfold ch
  rw[this]
 ·rintro⟨h1,h2⟩
  refine List.ext_getElem? fun t=>?_
  rcases Nat.lt_or_ge t (b-a)with ht|ht
  ·rw[(key t ht).1,(key t ht).2]
   have:=h2 t ht
   unfold ch at this
   rw[List.getElem?_eq_getElem (by omega),List.getElem?_eq_getElem (by omega)]at this ⊢
   simp only[Option.getD_some]at this
   rw[UInt8.toNat_inj.1 this]
  ·rw[List.getElem?_eq_none (by simp;omega),List.getElem?_eq_none (by rw[hlen];exact ht)]
theorem starts_in(s t:ByteArray)(i:Nat)(w:World)(hs:s.size<=1000)(ht:t.size<=1000)(hi:i<=s.size):
  Calls Tryz.prog 31 #[.string s,.int .i64 i,.string t] w fun e w'=>e= .returned (.bool (sw s.data.toList i t.data.toList))/\w'=w:=by
 go_enter Tryz.func31,Tryz.ntmps31
 go_wp2
 all_goals go_ret
 all_goals first
  |exact⟨ret_bool (by rw[sw_len _ _ _ (by simp;omega) (by simp;omega)]),rfl⟩
  |exact⟨ret_bool (sw_yes s t i),rfl⟩
theorem starts_in_b(s t:ByteArray)(i:Nat)(b:Bool)(w:World)(hs:s.size<=1000)(ht:t.size<=1000)(hi:i<=s.size)(hb:sw s.data.toList i t.data.toList=b):
  Calls Tryz.prog 31 #[.string s,.int .i64 i,.string t] w fun e w'=>e= .returned (.bool b)/\w'=w:=by
 subst hb
 exact starts_in s t i w hs ht hi
theorem stV_ga(x:Ds)(n:Nat)(hn:n<10):(stV x)[1+n*2]?=some (.int .i64 (ga x n))/\(stV x)[1+n*2+1]?=some (.int .i64 (gb x n)):=by
 rcases(show n=0\/n=1\/n=2\/n=3\/n=4\/n=5\/n=6\/n=7\/n=8\/n=9 by omega)with rfl|rfl|rfl|rfl|rfl|rfl|rfl|rfl|rfl|rfl<;>exact⟨rfl,rfl⟩
section
variable {H : Fins} {s : ByteArray} {rf : List Nat} {P : Nat}
theorem ditem_back(w:World)(b n:Nat)(x:Ds)(arr:Array Value)(hfit:FitD s.size rf)(hn9:n<=9)(hx:OkD s.size rf x)(hE:Env w H P rf)(hb:H b=some arr)(h0:arr[0]?=some (.string ⟨#[98,97,99,107]⟩))(h57:arr[257]?=some (.int .i64 n)):
  Calls Tryz.prog 35 #[.pointer (some ⟨P,0,none⟩),.pointer (some ⟨b,0,none⟩),.string s,.agg (stV x)] w fun e w'=>OutP w w' e (fun v=>Md s.data.toList rf (.back n) x v):=by
 have hEa:=hE.below rfl (alloc_below w (.cells (stV x) 77))
 have cb:=hEa.fin.cell hb h0
 have cn:=hEa.fin.cell hb h57
 have hblk:=heap_alloc_new w (.cells (stV x) 77)
 have cx:(w.alloc (.cells (stV x) 77)).cell? ⟨w.heap.size,0,none⟩=some (.int .i64 x.1):=by
  rw[cell_of_row _ _ 0 (stV x) _ _ hblk];exact stV_0 x
 have cg0:(w.alloc (.cells (stV x) 77)).cell? ⟨w.heap.size,1+n*2,none⟩=some (.int .i64 (ga x n)):=by
  rw[cell_of_row _ _ _ (stV x) _ _ hblk];exact(stV_ga x n (by omega)).1
 have cg1:(w.alloc (.cells (stV x) 77)).cell? ⟨w.heap.size,1+n*2+1,none⟩=some (.int .i64 (gb x n)):=by
  rw[cell_of_row _ _ _ (stV x) _ _ hblk];exact(stV_ga x n (by omega)).2
 have fx:(w.alloc (.cells (stV x) 77)).frozen? ⟨w.heap.size,0,none⟩=false:=by
  unfold World.frozen?
  rw[hblk]
  simp
 have cx2:∀o:Obj,((w.alloc (.cells (stV x) 77)).alloc o).cell? ⟨w.heap.size,0,none⟩=some (.int .i64 x.1):=fun o=>(World.cell?_alloc_lt _ _ _ (by simp)).trans cx
 have fx2:∀o:Obj,((w.alloc (.cells (stV x) 77)).alloc o).frozen? ⟨w.heap.size,0,none⟩=false:=fun o=>(World.frozen?_alloc_old _ _ _ (by simp)).trans fx
 have Hu:=hd und_state.choose_spec
 have hbw:=alloc_below w (.cells (stV x) 77)
 have hsp:x.2[n]?=some (ga x n,gb x n)/\((ga x n= -1/\gb x n= -1)\/∃a c:Nat,a<=c/\c<=s.size/\ga x n=a/\gb x n=c):=by
  obtain⟨sp,h1,h2⟩:=hx.sp n (by omega)
  have e:x.2.getD n (0,0)=sp:=by rw[List.getD_eq_getElem?_getD,h1];rfl
  have ea:ga x n=sp.1:=by unfold ga;rw[e]
  have eb:gb x n=sp.2:=by unfold gb;rw[e]
  refine⟨by rw[h1,ea,eb],?_⟩
  rw[ea,eb]
  rcases h2 with rfl|⟨a,c,h3,h4,rfl⟩
  ·exact .inl ⟨rfl,rfl⟩
  ·exact .inr ⟨a,c,h3,h4,rfl,rfl⟩
 have hn0:(0:Int)<=(n:Int):=by omega
 have hn10:(n:Int)<10:=by omega
 have hxp:=hx.pl
 have HB2:Hid (∀(o:Obj) k,Below w.heap.size w (((w.alloc (.cells (stV x) 77)).alloc o).drewN k)):=hd (fun o k=>by
  have:=hbw.trans ((alloc_below (w.alloc (.cells (stV x) 77)) o).mono (by simp))
  exact⟨this.os,this.tape,this.output,this.size,this.block⟩)
 rcases hsp.2 with⟨ea,eb⟩|⟨a,c,hac,hcs,ea,eb⟩
 ·have hs9:=hfit.2.2.1
  rw[ea]at cg0
  rw[eb]at cg1
  have HF:Hid (∀(o:Obj) k,OutP w (((w.alloc (.cells (stV x) 77)).alloc o).drewN k) (.returned (.slice none 0 0)) (fun v=>Md s.data.toList rf (.back n) x v)):=hd (fun o k=>outP_nil (HB2.out o k) (fun u hu=>by
   simp only[Md]at hu
   obtain⟨a,c,h1,_⟩:=hu
   rw[hsp.1,ea,eb]at h1
   simp at h1))
  clear hE hEa hb h0 h57 hsp hx hbw hblk hfit
  go_enter Tryz.func35,Tryz.ntmps35
  go_wp2_with (first
   |refine wp_stx (.tmp 3) (stV x) rfl rfl rfl ?_)
  go_quiet (fail)
  go_wp2
  go_ret
  exact HF.out _ _
 ·have hs24:s.size<=24:=by
   rcases hfit.2.2.2 with e|h
   ·exfalso
    have h1:=hx.no n (by omega) (by rw[e];simp)
    rw[hsp.1,ea,eb]at h1
    simp at h1
   ·exact h
  clear hfit
  rw[ea]at cg0
  rw[eb]at cg1
  have hext:(s.extract a c).data.toList=(s.data.toList.drop a).take (c-a):=by
   have:=extract_list s a c
   rw[ByteArray.toList_eq]at this
   exact this
  have hexs:(s.extract a c).size<=1000:=by
   rw[ByteArray.size_extract];omega
  have Hstd:=hd (stands_sw (l:=s.data.toList) (a:=a) (b:=c) (i:=x.1) (by rw[len_data];exact hcs) (by rw[len_data];exact hxp))
  have haI:(0:Int)<=(a:Int):=by omega
  have hacI:(a:Int)<=(c:Int):=by omega
  have hcsI:(c:Int)<=(s.size:Int):=by omega
  have Hmd:Hid (∀u,Md s.data.toList rf (.back n) x u↔(Stands s.data.toList a c x.1/\u=(x.1+(c-a),x.2))):=hd (fun u=>by
   simp only[Md]
   rw[hsp.1,ea,eb]
   constructor
   ·rintro⟨a',c',h1,h2,h3⟩
    simp only[Option.some.injEq,Prod.mk.injEq]at h1
    obtain⟨rfl,rfl⟩:a'=a/\c'=c:=by omega
    exact⟨h2,h3⟩
   ·rintro⟨h2,h3⟩
    exact⟨a,c,rfl,h2,h3⟩)
  cases hsw:sw s.data.toList x.1 ((s.data.toList.drop a).take (c-a))
  ·have HF:Hid (∀(o:Obj) k,OutP w (((w.alloc (.cells (stV x) 77)).alloc o).drewN k) (.returned (.slice none 0 0)) (fun v=>Md s.data.toList rf (.back n) x v)):=hd (fun o k=>outP_nil (HB2.out o k) (fun u hu=>by
    have:=Hstd.out.2 ((Hmd.out u).1 hu).1
    rw[hsw]at this
    cases this))
   have Hst:=hd (fun w=>starts_in_b s (s.extract a c) x.1 false w (by omega) hexs hxp (by rw[hext];exact hsw))
   clear hE hEa hb h0 h57 hsp hx hbw hblk hext hexs hsw
   go_enter Tryz.func35,Tryz.ntmps35
   go_wp2_with (first
    |refine wp_stx (.tmp 3) (stV x) rfl rfl rfl ?_)
   go_quiet ((go_at_call 31;exact Calls.quiet_of_same (Hst.out _)))
   go_wp2
   go_ret
   exact HF.out _ _
  ·have hblk2:∀(o:Obj) k,(((w.alloc (.cells (stV x) 77)).alloc o).drewN k).heap[w.heap.size]?=some (.cells (stV x) 77 (0,0)):=fun o k=>(Below.heap_alloc _ _ _ (by simp)).trans hblk
   have HR:Hid (∀(o:Obj) k,((((w.alloc (.cells (stV x) 77)).alloc o).drewN k).setCell ⟨w.heap.size,0,none⟩ (.int .i64 ((x.1:Int)+((c:Int)-(a:Int))))).rangeAt w.heap.size 0 (stL (x.1+(c-a),x.2))):=hd (fun o k=>range_put (hblk2 o k) (x.1+(c-a)) _ (by omega))
   have HF:Hid (∀(o:Obj) k,OutP w (((((w.alloc (.cells (stV x) 77)).alloc o).drewN k).setCell ⟨w.heap.size,0,none⟩ (.int .i64 ((x.1:Int)+((c:Int)-(a:Int))))).alloc (.cells (stV (x.1+(c-a),x.2)) 77)) (.returned (.slice (some ⟨w.heap.size+1+1,0,none⟩) 1 1)) (fun v=>Md s.data.toList rf (.back n) x v)):=hd (fun o k=>by
    have hb2:=(HB2.out o k).setCell (p:=⟨w.heap.size,0,none⟩) (Nat.le_refl _) (.int .i64 ((x.1:Int)+((c:Int)-(a:Int))))
    have hsz:((((w.alloc (.cells (stV x) 77)).alloc o).drewN k).setCell ⟨w.heap.size,0,none⟩ (.int .i64 ((x.1:Int)+((c:Int)-(a:Int))))).heap.size=w.heap.size+1+1:=by
     simp only[World.setCell,Array.size_modify]
     show((w.alloc _).alloc _).heap.size=_
     simp
    have:=outP_one (M:=fun v=>Md s.data.toList rf (.back n) x v) (d:=(x.1+(c-a),x.2)) hb2 (by rw[hsz];omega) (fun u=>by
     rw[Hmd.out u]
     exact⟨fun h=>h.2,fun h=>⟨Hstd.out.1 hsw,h⟩⟩)
    rw[hsz]at this
    exact this)
   have Hst:=hd (fun w=>starts_in_b s (s.extract a c) x.1 true w (by omega) hexs hxp (by rw[hext];exact hsw))
   have hca:(c:Int)-(a:Int)<=24:=by omega
   clear hE hEa hb h0 h57 hsp hx hbw hblk hext hexs hsw hblk2
   go_enter Tryz.func35,Tryz.ntmps35
   go_wp2_with (first
    |refine wp_stx (.tmp 3) (stV x) rfl rfl rfl ?_)
   go_quiet ((go_at_call 31;exact Calls.quiet_of_same (Hst.out _)))
   go_wp2_with (first
    |refine wpList_load_mid rfl 77 (.tmp 7) rfl w.heap.size 0 (by rfl) (stL (x.1+(c-a),x.2)) _ (HR.out _ _) Hu.out rfl info_state ?_
    |refine wp_one (.tmp 91) (x.1+(c-a),x.2) rfl rfl (by rfl) ?_)
   go_ret
   exact HF.out _ _
end
end Go.Proofs.YtldiemjlpnachaaGreatDoor
set_option maxHeartbeats 6400000
set_option maxRecDepth 100000
namespace Go.Proofs.YtldiemjlpnachaaGreatDoor
open Go.RowKit
theorem list_ten{α:Type}{m:List α}(h:m.length=10):∃g0 g1 g2 g3 g4 g5 g6 g7 g8 g9,m= [g0,g1,g2,g3,g4,g5,g6,g7,g8,g9]:=by
 match m,h with
 | [g0,g1,g2,g3,g4,g5,g6,g7,g8,g9],_=>exact⟨_,_,_,_,_,_,_,_,_,_,rfl⟩
theorem stV_span(z:Ds)(k:Nat)(hk:k<10)(hl:z.2.length=10)(a c:Int):((stV z).setIfInBounds (1+k*2) (.int .i64 a)).setIfInBounds (1+k*2+1) (.int .i64 c)=stV (z.1,z.2.set k (a,c)):=by
 obtain⟨p,m⟩:=z
 obtain⟨g0,g1,g2,g3,g4,g5,g6,g7,g8,g9,rfl⟩:=list_ten hl
 rcases(show k=0\/k=1\/k=2\/k=3\/k=4\/k=5\/k=6\/k=7\/k=8\/k=9 by omega)with rfl|rfl|rfl|rfl|rfl|rfl|rfl|rfl|rfl|rfl<;>kernel_rfl
def grpD(rf:List Nat)(k:Nat)(x z:Ds):Ds:=(z.1,if k∈rf then z.2.set k ((x.1:Int),(z.1:Int))else z.2)
section
variable {H : Fins} {s : ByteArray} {rf : List Nat} {P d : Nat}
theorem ditem_grp(hI:DItem H d s rf P)(hfit:FitD s.size rf)(w:World)(b k:Nat)(x:Ds)(arr:Array Value)(its:List It)(ao:Option Addr)(rn rc:Nat)(hk9:k<=9)(hx:OkD s.size rf x)(hE:Env w H P rf)(hb:H b=some arr)(h0:arr[0]?=some (.string ⟨#[103,114,111,117,112]⟩))(h57:arr[257]?=some (.int .i64 k))(h58:arr[258]?=some (.slice ao rn rc))(hR:RRow (RItemOk H d) H ao rn its):
  Calls Tryz.prog 35 #[.pointer (some ⟨P,0,none⟩),.pointer (some ⟨b,0,none⟩),.string s,.agg (stV x)] w fun e w'=>OutP w w' e (fun v=>Md s.data.toList rf (.grp k (its.map (·.3))) x v):=by
 have hEa:=hE.below rfl (alloc_below w (.cells (stV x) 77))
 have cb:=hEa.fin.cell hb h0
 have c58:=hEa.fin.cell hb h58
 have hblk:=heap_alloc_new w (.cells (stV x) 77)
 have HR2:=hd (range_new w x)
 have Hu:=hd und_state.choose_spec
 have Hi21:Hid (∀e:Ds,(Tryz.prog.info? 77).map (·.size)=some (stL e).length):=hd (fun e=>info_state)
 have HC57:Hid (∀wr,Env wr H P rf->wr.cell? ⟨b,257,none⟩=some (.int .i64 k)/\wr.cell? ⟨P,2+k,none⟩=some (.bool (rf.contains k))):=hd (fun wr h=>⟨h.fin.cell hb h57,h.used k (by omega)⟩)
 have HEa:=hd hEa
 have Hx:=hd hx
 have Hfit:=hd hfit
 have Hn9:=hd hfit.2.2.1
 have Hokr:Hid (∀v,MdRow s.data.toList rf (its.map (·.3)) x v->OkD s.size rf v/\OkD s.size rf (grpD rf k x v)):=hd (fun v hv=>by
  have h1:=mdRow_ok s.data.toList rf hfit.1 _ x v (by rw[len_data];exact hx) hv
  have h2:=md_ok s.data.toList rf hfit.1 (.grp k (its.map (·.3))) x (grpD rf k x v) (by rw[len_data];exact hx) (by simp only[Md];exact⟨v,hv,rfl⟩)
  rw[len_data]at h1 h2
  exact⟨h1.1,h2.1⟩)
 have hsz1:(w.alloc (.cells (stV x) 77)).heap.size=w.heap.size+1:=by simp
 have Hb1:=hd (alloc_below w (.cells (stV x) 77))
 have Hcall:Hid (Calls Tryz.prog 21 #[.pointer (some ⟨P,0,none⟩),.slice ao rn rc,.string s,.agg (stV x)] (w.alloc (.cells (stV x) 77)).drew fun e w'=>OutP (w.alloc (.cells (stV x) 77)).drew w' e (fun v=>MdRow s.data.toList rf (its.map (·.3)) x v)):=
  hd (drow_any hI hfit _ ao rn rc its x (hEa.below rfl ⟨rfl,rfl,rfl,Nat.le_refl _,fun _ _=>rfl⟩) hR hx)
 clear hE hEa hb h0 h57 h58 hx hfit hR hI
 go_enter Tryz.func35,Tryz.ntmps35
 go_upto_region 18 with(first
  |refine wp_stx (.tmp 3) (stV x) rfl rfl rfl ?_)
 generalize w.alloc (.cells (stV x) 77)=w1 at*
 obtain⟨X1,hX1⟩:∃X1,w1.heap.size=X1:=⟨_,rfl⟩
 have HX1:=hd hX1
 have hwX:w.heap.size<X1:=by omega
 have Hof:Hid (∀(w4:World) (L:List Ds) (v:Value),Below w1.drew.heap.size w1.drew w4->w4.ownsRow w1.drew.heap.size 77 21 v L.length (sts L)->L.Nodup->(∀u,u∈L↔MdRow s.data.toList rf (its.map (·.3)) x u)->Below X1 w1 w4/\w4.ownsRow X1 77 21 v L.length (sts L)/\L.Nodup/\∀u,u∈L↔MdRow s.data.toList rf (its.map (·.3)) x u):=hd (fun w4 L v h1 h2 h3 h4=>by
  have e:w1.drew.heap.size=X1:=hX1
  rw[e]at h1 h2
  exact⟨⟨h1.os,h1.tape,h1.output,h1.size,h1.block⟩,h2,h3,h4⟩)
 clear hX1 hsz1
 go_cut [10]from 95 to 102 (fun lv wx=>∃(L:List Ds) (la:Option Addr) (lc:Nat),lv= .slice la L.length lc/\Hid (Below X1 w1 wx/\wx.ownsRow X1 77 21 (.slice la L.length lc) L.length (sts L)/\L.Nodup/\∀u,u∈L↔MdRow s.data.toList rf (its.map (·.3)) x u))
 case first=>
  refine wp_region_any (by kernel_rfl) ?_
  change wpAny _ _ _ _ _ _ _ (World.drew _)
  have r2d:w1.drew.rangeAt w.heap.size 0 (stL x):=HR2.out
  refine wpAny_takeL (i:=0) (v:= .pointer (some ⟨P,0,none⟩)) rfl (by kernel_rfl) (by kernel_rfl) (by kernel_rfl) (fun _ _ _ h=>h) (Or.inl ⟨by rfl,by intro w;go_simp⟩) ?_
  simp only[Act.put,List.setIfInBounds_toArray,List.set_cons_zero,List.set_cons_succ]
  refine wpAny_takeL (i:=1) (v:= .pointer (some ⟨b,0,none⟩)) rfl (by kernel_rfl) (by kernel_rfl) (by kernel_rfl) (fun _ _ _ h=>h) (Or.inl ⟨by rfl,by intro w;go_simp⟩) ?_
  simp only[Act.put,List.setIfInBounds_toArray,List.set_cons_zero,List.set_cons_succ]
  refine wpAny_takeL (i:=2) (v:= .pointer (some ⟨b,0,none⟩)) rfl (by kernel_rfl) (by kernel_rfl) (by kernel_rfl) (fun _ _ _ h=>h) (Or.inl ⟨by rfl,by intro w;go_simp⟩) ?_
  simp only[Act.put,List.setIfInBounds_toArray,List.set_cons_zero,List.set_cons_succ]
  refine wpAny_takeL (i:=3) (v:= .pointer (some ⟨b,258,none⟩)) rfl (by kernel_rfl) (by kernel_rfl) (by kernel_rfl) (fun _ _ _ h=>h) (Or.inl ⟨by rfl,by intro w;go_simp⟩) ?_
  simp only[Act.put,List.setIfInBounds_toArray,List.set_cons_zero,List.set_cons_succ]
  refine wpAny_takeL (i:=5) (v:= .string s) rfl (by kernel_rfl) (by kernel_rfl) (by kernel_rfl) (fun _ _ _ h=>h) (Or.inl ⟨by rfl,by intro w;go_simp⟩) ?_
  simp only[Act.put,List.setIfInBounds_toArray,List.set_cons_zero,List.set_cons_succ]
  refine wpAny_ready (rs:= [4,6]) (by kernel_rfl) (by simp) ?_
  refine AllReady.consL rfl (fun K hK=>?_) ?_
  ·go_simp
   refine hK _ _ ?_
   clear hK K
   refine wpAny_ready (rs:= [6]) (by kernel_rfl) (by simp) ?_
   refine AllReady.consL rfl (fun K hK=>?_) AllReady.nil
   refine step_load_mid rfl 77 (.tmp 7) rfl w.heap.size 0 (by rfl) (stL x) _ r2d Hu.out rfl (Hi21.out x) ?_
   refine hK _ _ ?_
   clear hK K
   simp only[Act.put,List.setIfInBounds_toArray,List.set_cons_zero,List.set_cons_succ]
   refine wpAny_ready (rs:= [7]) (by kernel_rfl) (by simp) ?_
   refine AllReady.consL rfl (fun K hK=>?_) AllReady.nil
   go_simp
   refine Hcall.out.mono ?_
   rintro e w4 ⟨L,cv,rfl,hb4,ho4,hn4,hm4⟩
   obtain⟨la,lc,rfl⟩:=owns_shape ho4
   have HR4:=hd (Hof.out w4 L _ hb4 ho4 hn4 hm4)
   clear hb4 ho4 hn4 hm4
   go_wp2_with fail
   refine wpAny_takeL (i:=8) (v:= .slice la L.length lc) rfl (by kernel_rfl) (by kernel_rfl) (by kernel_rfl) (fun _ _ _ h=>h) (Or.inl ⟨by rfl,by intro w;go_simp⟩) ?_
   simp only[Act.put,List.setIfInBounds_toArray,List.set_cons_zero,List.set_cons_succ]
   refine wpAny_done (by kernel_rfl) ?_ _
   go_wp2_with fail
   go_meet
   case rel=>exact⟨L,la,lc,rfl,HR4⟩
  refine AllReady.consL rfl (fun K hK=>?_) AllReady.nil
  refine step_load_mid rfl 77 (.tmp 7) rfl w.heap.size 0 (by rfl) (stL x) _ r2d Hu.out rfl (Hi21.out x) ?_
  refine hK _ _ ?_
  clear hK K
  simp only[Act.put,List.setIfInBounds_toArray,List.set_cons_zero,List.set_cons_succ]
  refine wpAny_ready (rs:= [4]) (by kernel_rfl) (by simp) ?_
  refine AllReady.consL rfl (fun K hK=>?_) AllReady.nil
  go_simp
  refine hK _ _ ?_
  clear hK K
  refine wpAny_ready (rs:= [7]) (by kernel_rfl) (by simp) ?_
  refine AllReady.consL rfl (fun K hK=>?_) AllReady.nil
  go_simp
  refine Hcall.out.mono ?_
  rintro e w4 ⟨L,cv,rfl,hb4,ho4,hn4,hm4⟩
  obtain⟨la,lc,rfl⟩:=owns_shape ho4
  have HR4:=hd (Hof.out w4 L _ hb4 ho4 hn4 hm4)
  clear hb4 ho4 hn4 hm4
  go_wp2_with fail
  refine wpAny_takeL (i:=8) (v:= .slice la L.length lc) rfl (by kernel_rfl) (by kernel_rfl) (by kernel_rfl) (fun _ _ _ h=>h) (Or.inl ⟨by rfl,by intro w;go_simp⟩) ?_
  simp only[Act.put,List.setIfInBounds_toArray,List.set_cons_zero,List.set_cons_succ]
  refine wpAny_done (by kernel_rfl) ?_ _
  go_wp2_with fail
  go_meet
  case rel=>exact⟨L,la,lc,rfl,HR4⟩
 case rest=>
  obtain⟨L,la,lc,rfl,H4⟩:=hcut
  have HLok:Hid (∀z∈L,OkD s.size rf z/\OkD s.size rf (grpD rf k x z)):=hd (fun z hz=>Hokr.out z ((H4.out.2.2.2 z).1 hz))
  have hLn:L.length<=2000000000:=(all_count Hfit.out H4.out.2.2.1 (fun z hz=>(HLok.out z hz).1)).1
  have hLI:(L.length:Int)<=2000000000:=by omega
  obtain⟨T,hT⟩:∃T,wc.heap.size=T:=⟨_,rfl⟩
  have hXT:X1<=T:=by have:=H4.out.1.size;have:=HX1.out;omega
  have HIn:Hid (DIn X1 T w1 (wc.alloc (.cells stZ 111)) (fun k=>if k=T then some 998 else none) [] (fun v=>∃z∈L.take 0,v=grpD rf k x z)):=hd (by
   subst hT
   exact⟨H4.out.1.trans ((alloc_below wc _).mono hXT),sts_new wc,by simp,fun v=>by simp⟩)
  have HK:Hid (Kps (wc.alloc (.cells stZ 111)) (fun k=>if k=T then some 998 else none) X1 (.slice la L.length lc) L):=hd (by
   subst hT
   refine⟨H4.out.2.1.alloc _,fun q hq=>?_⟩
   have:=owns_lt H4.out.2.1 hq
   exact if_neg (by omega))
  have hTs:T<(wc.alloc (.cells stZ 111)).heap.size:=by simp;omega
  have Hmem:=hd H4.out.2.2.2
  go_wp2_with (first
   |refine wp_sts rfl rfl ?_
   |refine wp_stsx (.tmp 103) stZ rfl rfl (by rfl) ?_)
  clear H4 cb c58 Hcall Hof
  generalize wc.alloc (.cells stZ 111)=W1 at*
  clear hT
  go_loopg [107] (L.length+1) (fun f iv w2=>∃(i:Nat) (N:List Ds) (tg:Nat->Option Nat),iv= .int .i64 i/\i<=L.length/\L.length<i+f/\T<w2.heap.size/\Hid (DIn X1 T w1 w2 tg N (fun v=>∃z∈L.take i,v=grpD rf k x z))/\Hid (Kps w2 tg X1 (.slice la L.length lc) L))
  case atStart=>exact⟨0,[],_,rfl,by omega,by omega,hTs,HIn,HK⟩
  case round=>
   clear HIn HK hTs
   obtain⟨i,N,tg,rfl,hi,hif,hTs,HIn,HK⟩:=hrel
   by_cases hil:i<L.length
   ·obtain⟨gl,rfl⟩:=owns_some HK.out.1 (by omega)
    obtain⟨z,hz⟩:∃z,z=L[i]:=⟨_,rfl⟩
    have HR1:Hid (wr.rangeAt gl (i*21) (stL z)):=hd (by rw[hz];exact range_at HK.out.1 hil)
    have Hzo:Hid (OkD s.size rf z/\OkD s.size rf (grpD rf k x z)):=hd (HLok.out z (by rw[hz];exact List.getElem_mem hil))
    have Htki:Hid (∀v,v∈L.take (i+1)↔v∈L.take i\/v=z):=hd (fun v=>by rw[hz];exact mem_take_succ hil v)
    have hXw:X1<=wr.heap.size:=by omega
    have hEz:=HEa.out.below HX1.out.symm (HIn.out.bl.trans ((alloc_below wr (.cells (stV z) 77)).mono hXw))
    obtain⟨c57,cu⟩:=HC57.out _ hEz
    have cx0:(wr.alloc (.cells (stV z) 77)).cell? ⟨w.heap.size,0,none⟩=some (.int .i64 x.1):=by
     rw[cell_of_row _ _ 0 (stV x) _ _ ((Below.heap_alloc _ _ _ (by omega)).trans ((HIn.out.bl.block _ hwX).trans hblk))];exact stV_0 x
    have hzblk:=heap_alloc_new wr (.cells (stV z) 77)
    have cz0:(wr.alloc (.cells (stV z) 77)).cell? ⟨wr.heap.size,0,none⟩=some (.int .i64 z.1):=by
     rw[cell_of_row _ _ 0 (stV z) _ _ hzblk];exact stV_0 z
    have cg0:(wr.alloc (.cells (stV z) 77)).cell? ⟨wr.heap.size,1+k*2,none⟩=some (.int .i64 (ga z k)):=by
     rw[cell_of_row _ _ _ (stV z) _ _ hzblk];exact(stV_ga z k (by omega)).1
    have cg1:(wr.alloc (.cells (stV z) 77)).cell? ⟨wr.heap.size,1+k*2+1,none⟩=some (.int .i64 (gb z k)):=by
     rw[cell_of_row _ _ _ (stV z) _ _ hzblk];exact(stV_ga z k (by omega)).2
    have fz:∀j,(wr.alloc (.cells (stV z) 77)).frozen? ⟨wr.heap.size,j,none⟩=false:=fun j=>by
     unfold World.frozen?
     rw[hzblk]
     simp
    have hcnt:=all_count Hfit.out HIn.out.nd (fun v hv=>by
     obtain⟨q,h1,rfl⟩:=(HIn.out.mem v).1 hv
     exact(HLok.out q (List.mem_of_mem_take h1)).2)
    have Hcnt:=hd hcnt
    have Hzblk:=hd hzblk
    have hjI:(i:Int)<(L.length:Int):=by omega
    have hj0:(0:Int)<=(i:Int):=by omega
    have hk0:(0:Int)<=(k:Int):=by omega
    have hk10:(k:Int)<10:=by omega
    clear hz hcnt hzblk hEz
    obtain⟨gf,rfl⟩:∃gf,gk=gf+1:=⟨gk-1,by omega⟩
    by_cases hkr:k∈rf
    ·have hkc:rf.contains k=true:=by simpa using hkr
     rw[hkc]at cu
     go_wp2_with (first
      |refine wpList_load_mid rfl 77 (.tmp 109) rfl gl (i*21) (by rfl) (stL z) _ HR1.out Hu.out rfl (Hi21.out z) ?_
      |(refine wpList_store_row rfl 77 (.tmp 13) (.tmp 110) rfl wr.heap.size (stV z) (by rfl) (by rfl) 77 _ (heap_alloc_new _ _) info_state rfl (stV_one z) ?_;rw[World.setRow_alloc_new]))
     go_quiet (fail)
     go_wp2_with fail
     go_region
     have HB6:Hid (Below wr.heap.size wr ((((wr.alloc (.cells (stV z) 77)).drewN (nq+1)).setCell ⟨wr.heap.size,1+k*2,none⟩ (.int .i64 x.1)).setCell ⟨wr.heap.size,1+k*2+1,none⟩ (.int .i64 z.1))):=hd (by
      have hbw:=alloc_below wr (.cells (stV z) 77)
      exact((show Below wr.heap.size wr ((wr.alloc (.cells (stV z) 77)).drewN (nq+1))from⟨hbw.os,hbw.tape,hbw.output,hbw.size,hbw.block⟩).setCell (p:=⟨wr.heap.size,1+k*2,none⟩) (Nat.le_refl _) _).setCell (p:=⟨wr.heap.size,1+k*2+1,none⟩) (Nat.le_refl _) _)
     have HXs:Hid (((((wr.alloc (.cells (stV z) 77)).drewN (nq+1)).setCell ⟨wr.heap.size,1+k*2,none⟩ (.int .i64 x.1)).setCell ⟨wr.heap.size,1+k*2+1,none⟩ (.int .i64 z.1)).heap.size=wr.heap.size+1):=hd (by
      simp only[World.setCell,Array.size_modify]
      show(wr.alloc _).heap.size=_
      simp)
     obtain⟨u,hu⟩:∃u,u=grpD rf k x z:=⟨_,rfl⟩
     have Hug:Hid (grpD rf k x z=u):=hd hu.symm
     have HR6:Hid (((((wr.alloc (.cells (stV z) 77)).drewN (nq+1)).setCell ⟨wr.heap.size,1+k*2,none⟩ (.int .i64 x.1)).setCell ⟨wr.heap.size,1+k*2+1,none⟩ (.int .i64 z.1)).rangeAt wr.heap.size 0 (stL u)):=hd (by
      have h1:=heap_setCell_self (w:=(wr.alloc (.cells (stV z) 77)).drewN (nq+1)) (i:=1+k*2) Hzblk.out (.int .i64 x.1)
      have h2:=heap_setCell_self (i:=1+k*2+1) h1 (.int .i64 z.1)
      rw[stV_span z k (by omega) Hzo.out.1.len]at h2
      have e:u=(z.1,z.2.set k ((x.1:Int),(z.1:Int))):=by rw[hu];unfold grpD;rw[if_pos hkr]
      rw[<-e]at h2
      have:=World.rangeAt_of_block h2 0 21
      rw[show((stV u).extract 0 (0+21)).toList=stL u by kernel_rfl]at this
      exact this)
     generalize (((wr.alloc (.cells (stV z) 77)).drewN (nq+1)).setCell ⟨wr.heap.size,1+k*2,none⟩ (.int .i64 x.1)).setCell ⟨wr.heap.size,1+k*2+1,none⟩ (.int .i64 z.1)=W6 at*
     clear hu hkr hkc
     have Huo:Hid (OkD s.size rf u):=hd (by rw[<-Hug.out];exact Hzo.out.2)
     have HIa:=hd (HIn.out.below hXw HB6.out)
     have HKa:=hd (HK.out.below HB6.out)
     have Hcall:=hd (dadd_any HIa.out.st Hcnt.out.2 u (Huo.out.okH Hn9.out) Hcnt.out.1 (by have:=HXs.out;omega))
     clear c57 cu cx0 cz0 cg0 cg1 fz
     go_wp2_with (first
      |refine wpList_load_mid rfl 77 (.tmp 13) rfl wr.heap.size 0 (by rfl) (stL u) _ HR6.out Hu.out rfl (Hi21.out u) ?_
      |(go_at_call 36;refine Hcall.out.mono ?_;rintro e w7 ⟨rfl,tg7,hs7,hg7⟩))
     have HI7:=hd ((HIa.out.add (by have:=HXs.out;omega) hXT hs7 hg7).cg (M':=fun v=>∃z∈L.take (i+1),v=grpD rf k x z) (fun v=>by
      constructor
      ·rintro(⟨q,h1,h2⟩|rfl)
       ·exact⟨q,(Htki.out q).2 (.inl h1),h2⟩
       ·exact⟨z,(Htki.out z).2 (.inr rfl),Hug.out.symm⟩
      ·rintro⟨q,h1,rfl⟩
       rcases(Htki.out q).1 h1 with h|rfl
       ·exact .inl ⟨q,h,rfl⟩
       ·exact .inr Hug.out))
     have HK7:=hd (HKa.out.gro hg7)
     have hT7:T<w7.heap.size:=by have:=hg7.size;have:=HXs.out;omega
     clear hs7 hg7 HIa HKa
     go_roundg gf
     case measure=>omega
     case rel=>exact⟨i+1,_,tg7,by go_num,by omega,by omega,hT7,HI7,HK7⟩
    ·have hkc:rf.contains k=false:=by simpa using hkr
     rw[hkc]at cu
     go_wp2_with (first
      |refine wpList_load_mid rfl 77 (.tmp 109) rfl gl (i*21) (by rfl) (stL z) _ HR1.out Hu.out rfl (Hi21.out z) ?_
      |(refine wpList_store_row rfl 77 (.tmp 13) (.tmp 110) rfl wr.heap.size (stV z) (by rfl) (by rfl) 77 _ (heap_alloc_new _ _) info_state rfl (stV_one z) ?_;rw[World.setRow_alloc_new]))
     go_quiet (fail)
     have HB6:Hid (Below wr.heap.size wr ((wr.alloc (.cells (stV z) 77)).drewN nq)):=hd (by
      have hbw:=alloc_below wr (.cells (stV z) 77)
      exact⟨hbw.os,hbw.tape,hbw.output,hbw.size,hbw.block⟩)
     have HXs:Hid (((wr.alloc (.cells (stV z) 77)).drewN nq).heap.size=wr.heap.size+1):=hd (by
      show(wr.alloc _).heap.size=_
      simp)
     obtain⟨u,hu⟩:∃u,u=z:=⟨_,rfl⟩
     have Hug:Hid (grpD rf k x z=u):=hd (by rw[hu];unfold grpD;rw[if_neg hkr])
     have HR6:Hid (((wr.alloc (.cells (stV z) 77)).drewN nq).rangeAt wr.heap.size 0 (stL u)):=hd (by rw[hu];exact range_new wr z)
     generalize (wr.alloc (.cells (stV z) 77)).drewN nq=W6 at*
     clear hu hkr hkc
     have Huo:Hid (OkD s.size rf u):=hd (by rw[<-Hug.out];exact Hzo.out.2)
     have HIa:=hd (HIn.out.below hXw HB6.out)
     have HKa:=hd (HK.out.below HB6.out)
     have Hcall:=hd (dadd_any HIa.out.st Hcnt.out.2 u (Huo.out.okH Hn9.out) Hcnt.out.1 (by have:=HXs.out;omega))
     clear c57 cu cx0 cz0 cg0 cg1 fz
     go_wp2_with (first
      |refine wpList_load_mid rfl 77 (.tmp 13) rfl wr.heap.size 0 (by rfl) (stL u) _ HR6.out Hu.out rfl (Hi21.out u) ?_
      |(go_at_call 36;refine Hcall.out.mono ?_;rintro e w7 ⟨rfl,tg7,hs7,hg7⟩))
     have HI7:=hd ((HIa.out.add (by have:=HXs.out;omega) hXT hs7 hg7).cg (M':=fun v=>∃z∈L.take (i+1),v=grpD rf k x z) (fun v=>by
      constructor
      ·rintro(⟨q,h1,h2⟩|rfl)
       ·exact⟨q,(Htki.out q).2 (.inl h1),h2⟩
       ·exact⟨z,(Htki.out z).2 (.inr rfl),Hug.out.symm⟩
      ·rintro⟨q,h1,rfl⟩
       rcases(Htki.out q).1 h1 with h|rfl
       ·exact .inl ⟨q,h,rfl⟩
       ·exact .inr Hug.out))
     have HK7:=hd (HKa.out.gro hg7)
     have hT7:T<w7.heap.size:=by have:=hg7.size;have:=HXs.out;omega
     clear hs7 hg7 HIa HKa
     go_roundg gf
     case measure=>omega
     case rel=>exact⟨i+1,_,tg7,by go_num,by omega,by omega,hT7,HI7,HK7⟩
   ·obtain rfl:i=L.length:=by omega
    obtain⟨vl,hvl,hol,htl⟩:=HIn.out.st.cl
    obtain⟨na,nc,rfl⟩:=owns_shape hol
    have HF:Hid (OutP w wr (.returned (.slice na N.length nc)) (fun v=>Md s.data.toList rf (.grp k (its.map (·.3))) x v)):=hd (by
     refine⟨N,_,rfl,Hb1.out.trans (HIn.out.bl.mono (by omega)),owns_base hol (by omega),HIn.out.nd,fun u=>?_⟩
     rw[HIn.out.mem u,List.take_length]
     simp only[Md]
     constructor
     ·rintro⟨z,h1,h2⟩;exact⟨z,(Hmem.out z).1 h1,h2⟩
     ·rintro⟨z,h1,h2⟩;exact⟨z,(Hmem.out z).2 h1,h2⟩)
    clear hol htl
    go_wp2
    go_ret
    exact HF.out
end
end Go.Proofs.YtldiemjlpnachaaGreatDoor
namespace Go.Proofs.YtldiemjlpnachaaGreatDoor
open Go.RowKit
section
variable {H : Fins} {s : ByteArray} {rf : List Nat} {P : Nat}
theorem OutP.wider{w w1 w':World}{e:Ending}{M:Ds->Prop}(h:OutP w1 w' e M)(hb:Below w.heap.size w w1):OutP w w' e M:=by
 obtain⟨L,v,h1,h2,h3,h4,h5⟩:=h
 exact⟨L,v,h1,hb.trans (h2.mono hb.size),owns_base h3 hb.size,h4,h5⟩
theorem ditem_times{M:Ds->Prop}(w:World)(b:Nat)(x:Ds)(arr:Array Value)(hE:Env w H P rf)(hb:H b=some arr)(h0:arr[0]?=some (.string ⟨#[116,105,109,101,115]⟩))
  (hT:Calls Tryz.prog 57 #[.pointer (some ⟨P,0,none⟩),.pointer (some ⟨b,0,none⟩),.string s,.agg (stV x)] (w.alloc (.cells (stV x) 77)) fun e w'=>OutP (w.alloc (.cells (stV x) 77)) w' e M):
  Calls Tryz.prog 35 #[.pointer (some ⟨P,0,none⟩),.pointer (some ⟨b,0,none⟩),.string s,.agg (stV x)] w fun e w'=>OutP w w' e M:=by
 have hEa:=hE.below rfl (alloc_below w (.cells (stV x) 77))
 have cb:=hEa.fin.cell hb h0
 have HR:=hd (range_new w x)
 have Hu:=hd und_state.choose_spec
 have HT:=hd hT
 have Hb:=hd (alloc_below w (.cells (stV x) 77))
 clear hE hEa hb h0 hT
 go_enter Tryz.func35,Tryz.ntmps35
 go_wp2_with (first
  |refine wp_stx (.tmp 3) (stV x) rfl rfl rfl ?_
  |refine wpList_load_mid rfl 77 (.tmp 7) rfl w.heap.size 0 (by rfl) (stL x) _ HR.out Hu.out rfl info_state ?_
  |(go_at_call 57;refine HT.out.mono ?_;rintro e w4 ⟨L,v,rfl,hb4,ho4,hn4,hm4⟩))
 go_ret
 exact OutP.wider ⟨L,v,rfl,hb4,ho4,hn4,hm4⟩ Hb.out
theorem ditem_any(hfit:FitD s.size rf):∀d,DItem H d s rf P
 |0=>fun _ _ _ _ _ h _=>h.elim
 |d+1=>by
  have ih:=ditem_any hfit d
  intro w b it x hE hok hx
  obtain⟨arr,hb,_,_,_,hcase⟩:=hok
  obtain⟨kd,sz,tr⟩:=it
  simp only at hcase ⊢
  rcases hcase with⟨is,h0,hk,_,hl⟩|⟨_,h0,ao,rn,rc,its,h58,hR,_,k,hk9,h57,rfl⟩|⟨_,h0,q,qi,m,n,h59,h60,h61,hm0,hm1,hn0,hn1,hq,_,rfl,hmn⟩
  ·rcases hl with⟨e,f,rfl,hf⟩|⟨e,rfl⟩|⟨e,rfl⟩|⟨e,n,hn,rfl,h57⟩
   ·rcases hk with⟨e2,rfl⟩|⟨e2,rfl⟩|⟨e2,rfl⟩|⟨e2,rfl⟩
    ·exact ditem_byte w b x arr f hfit.2.2.1 hE hb h0 hf
    ·omega
    ·omega
    ·omega
   ·rcases hk with⟨e2,rfl⟩|⟨e2,rfl⟩|⟨e2,rfl⟩|⟨e2,rfl⟩
    ·omega
    ·exact ditem_beg w b x arr hE hb h0
    ·omega
    ·omega
   ·rcases hk with⟨e2,rfl⟩|⟨e2,rfl⟩|⟨e2,rfl⟩|⟨e2,rfl⟩
    ·omega
    ·omega
    ·exact ditem_fin w b x arr hfit.2.2.1 hE hb h0
    ·omega
   ·rcases hk with⟨e2,rfl⟩|⟨e2,rfl⟩|⟨e2,rfl⟩|⟨e2,rfl⟩
    ·omega
    ·omega
    ·omega
    ·exact ditem_back w b n x arr hfit hn hx hE hb h0 h57
  ·exact ditem_grp ih hfit w b k x arr its ao rn rc hk9 hx hE hb h0 h57 h58 hR
  ·obtain⟨mm,rfl⟩:∃mm:Nat,m=mm:=⟨m.toNat,by omega⟩
   refine ditem_times w b x arr hE hb h0 ?_
   have:=dtimes_any ih hfit (w.alloc (.cells (stV x) 77)) b q mm n qi arr x (hE.below rfl (alloc_below w _)) hb h59 h60 h61 hq (by omega) hn0 hn1 hmn hx
   refine this.mono fun e w' h=>?_
   simp only[Md]
   exact h
end
end Go.Proofs.YtldiemjlpnachaaGreatDoor

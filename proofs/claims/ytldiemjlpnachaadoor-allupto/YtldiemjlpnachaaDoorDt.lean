import Derived.Test.YtldiemjlpnachaaDoorTi
import Derived.Test.YtldiemjlpnachaaDoorRMem
import Derived.Test.YtldiemjlpnachaaDoorRStr
namespace Go.Proofs.YtldiemjlpnachaaDoor
open Go.RowKit
theorem outP_nil{w w':World}{M:Ds→Prop}(hb:Below w.heap.size w w')(hM:∀u,¬M u):OutP w w' (.returned (.slice none 0 0)) M:=
 ⟨[],_,rfl,hb,World.ownsRow_nil _ _ _ _,by simp,fun u=>⟨fun h=>by simp at h,fun h=>absurd h (hM u)⟩⟩
theorem outP_one{w w':World}{M:Ds→Prop}{d:Ds}(hb:Below w.heap.size w w')(hs:w.heap.size≤w'.heap.size)(hM:∀u,M u↔u=d):OutP w (w'.alloc (.cells (stV d) 71)) (.returned (.slice (some ⟨w'.heap.size,0,none⟩) 1 1)) M:=
 ⟨[d],_,rfl,hb.trans ((alloc_below w' _).mono hs),owns_one d hs,by simp,fun u=>by rw[List.mem_singleton];exact(hM u).symm⟩
section
variable {H : Fins} {s : ByteArray} {rf : List Nat} {P : Nat}
set_option maxRecDepth 100000 in
set_option maxHeartbeats 1600000 in
theorem ditem_beg(w:World)(b:Nat)(x:Ds)(arr:Array Value)(hE:Env w H P rf)(hb:H b=some arr)(h0:arr[0]?=some (.string ⟨#[94]⟩)):
  Calls Tryd.prog 43 #[.pointer (some ⟨P,0,none⟩),.pointer (some ⟨b,0,none⟩),.string s,.agg (stV x)] w fun e w'=>OutP w w' e (fun v=>Md s.data.toList rf .beg x v):=by
 have hEa:=hE.below rfl (alloc_below w (.cells (stV x) 71))
 have cb:=hEa.fin.cell hb h0
 have cx:(w.alloc (.cells (stV x) 71)).cell? ⟨w.heap.size,0,none⟩=some (.int .i64 x.1):=by
  rw[cell_of_row _ _ 0 (stV x) _ _ (heap_alloc_new w _)];exact stV_0 x
 have HR:=hd (range_new w x)
 have Hu:=hd und_state.choose_spec
 have HF1:Hid (x.1=0→OutP w ((w.alloc (.cells (stV x) 71)).alloc (.cells (stV x) 71)) (.returned (.slice (some ⟨w.heap.size+1,0,none⟩) 1 1)) (fun v=>Md s.data.toList rf .beg x v)):=hd (fun h=>by
  have:=outP_one (M:=fun v=>Md s.data.toList rf .beg x v) (d:=x) (alloc_below w (.cells (stV x) 71)) (by simp) (fun u=>by simp[Md,h])
  rw[show(w.alloc (.cells (stV x) 71)).heap.size=w.heap.size+1 by simp]at this
  exact this)
 have HF0:Hid (x.1≠0→OutP w (w.alloc (.cells (stV x) 71)) (.returned (.slice none 0 0)) (fun v=>Md s.data.toList rf .beg x v)):=hd (fun h=>outP_nil (alloc_below w _) (fun u hu=>by simp only[Md]at hu;exact h hu.1))
 clear hE hEa hb h0
 by_cases h:x.1=0
 ·have hb1:((x.1:Int)==0)=true:=beq_iff_eq.2 (by omega)
  have HF:=hd (HF1.out h)
  clear h HF1 HF0
  go_enter Tryd.func43,Tryd.ntmps43
  go_wp2_with (first
   |refine wp_stx (.tmp 3) (stV x) rfl rfl rfl ?_
   |refine wpList_load_mid rfl 71 (.tmp 7) rfl w.heap.size 0 (by rfl) (stL x) _ HR.out Hu.out rfl info_state ?_
   |refine wp_one (.tmp 47) x rfl rfl (by rfl) ?_)
  go_ret
  exact HF.out
 ·have hb1:((x.1:Int)==0)=false:=beq_eq_false_iff_ne.2 (by omega)
  have HF:=hd (HF0.out h)
  clear h HF1 HF0
  go_enter Tryd.func43,Tryd.ntmps43
  go_wp2_with (first
   |refine wp_stx (.tmp 3) (stV x) rfl rfl rfl ?_)
  go_ret
  exact HF.out
set_option maxRecDepth 100000 in
set_option maxHeartbeats 1600000 in
theorem ditem_fin(w:World)(b:Nat)(x:Ds)(arr:Array Value)(_hn:s.size≤1000000000)(hE:Env w H P rf)(hb:H b=some arr)(h0:arr[0]?=some (.string ⟨#[36]⟩)):
  Calls Tryd.prog 43 #[.pointer (some ⟨P,0,none⟩),.pointer (some ⟨b,0,none⟩),.string s,.agg (stV x)] w fun e w'=>OutP w w' e (fun v=>Md s.data.toList rf (.fin) x v):=by
 have hEa:=hE.below rfl (alloc_below w (.cells (stV x) 71))
 have cb:=hEa.fin.cell hb h0
 have cx:(w.alloc (.cells (stV x) 71)).cell? ⟨w.heap.size,0,none⟩=some (.int .i64 x.1):=by
  rw[cell_of_row _ _ 0 (stV x) _ _ (heap_alloc_new w _)];exact stV_0 x
 have HR:=hd (range_new w x)
 have Hu:=hd und_state.choose_spec
 have HF1:Hid (x.1=s.size→OutP w ((w.alloc (.cells (stV x) 71)).alloc (.cells (stV x) 71)) (.returned (.slice (some ⟨w.heap.size+1,0,none⟩) 1 1)) (fun v=>Md s.data.toList rf (.fin) x v)):=hd (fun h=>by
  have:=outP_one (M:=fun v=>Md s.data.toList rf (.fin) x v) (d:=x) (alloc_below w (.cells (stV x) 71)) (by simp) (fun u=>by simp only[Md];rw[len_data];simp[h])
  rw[show(w.alloc (.cells (stV x) 71)).heap.size=w.heap.size+1 by simp]at this
  exact this)
 have HF0:Hid (x.1≠s.size→OutP w (w.alloc (.cells (stV x) 71)) (.returned (.slice none 0 0)) (fun v=>Md s.data.toList rf (.fin) x v)):=hd (fun h=>outP_nil (alloc_below w _) (fun u hu=>by simp only[Md]at hu;rw[len_data]at hu;exact h hu.1))
 clear hE hEa hb h0
 by_cases h:x.1=s.size
 ·have hb1:((x.1:Int)==(s.size:Int))=true:=beq_iff_eq.2 (by omega)
  have HF:=hd (HF1.out h)
  clear h HF1 HF0
  go_enter Tryd.func43,Tryd.ntmps43
  go_wp2_with (first
   |refine wp_stx (.tmp 3) (stV x) rfl rfl rfl ?_
   |refine wpList_load_mid rfl 71 (.tmp 7) rfl w.heap.size 0 (by rfl) (stL x) _ HR.out Hu.out rfl info_state ?_
   |refine wp_one (.tmp 56) x rfl rfl (by rfl) ?_)
  go_ret
  exact HF.out
 ·have hb1:((x.1:Int)==(s.size:Int))=false:=beq_eq_false_iff_ne.2 (by omega)
  have HF:=hd (HF0.out h)
  clear h HF1 HF0
  go_enter Tryd.func43,Tryd.ntmps43
  go_wp2_with (first
   |refine wp_stx (.tmp 3) (stV x) rfl rfl rfl ?_)
  go_ret
  exact HF.out
theorem stV_put(x:Ds)(p:Nat)(z:Int)(hz:z=p):(stV x).setIfInBounds 0 (.int .i64 z)=stV (p,x.2):=by
 subst hz
 kernel_rfl
theorem range_put{w:World}{X:Nat}{x:Ds}{t:TypeId}(h:w.heap[X]?=some (.cells (stV x) t (0,0)))(p:Nat)(z:Int)(hz:z=p):(w.setCell ⟨X,0,none⟩ (.int .i64 z)).rangeAt X 0 (stL (p,x.2)):=by
 have h2:=heap_setCell_self (i:=0) h (.int .i64 z)
 rw[stV_put x p z hz]at h2
 have:=World.rangeAt_of_block h2 0 21
 rw[show((stV (p,x.2)).extract 0 (0+21)).toList=stL (p,x.2) by kernel_rfl]at this
 exact this
set_option maxRecDepth 100000 in
set_option maxHeartbeats 1600000 in
theorem ditem_byte(w:World)(b:Nat)(x:Ds)(arr:Array Value)(f:Nat→Bool)(hn:s.size≤1000000000)(hE:Env w H P rf)(hb:H b=some arr)(h0:arr[0]?=some (.string ⟨#[98,121,116,101]⟩))(hf:∀c,c<256→arr[1+c]?=some (.bool (f c))):
  Calls Tryd.prog 43 #[.pointer (some ⟨P,0,none⟩),.pointer (some ⟨b,0,none⟩),.string s,.agg (stV x)] w fun e w'=>OutP w w' e (fun v=>Md s.data.toList rf (.one f) x v):=by
 have hEa:=hE.below rfl (alloc_below w (.cells (stV x) 71))
 have cb:=hEa.fin.cell hb h0
 have cx:(w.alloc (.cells (stV x) 71)).cell? ⟨w.heap.size,0,none⟩=some (.int .i64 x.1):=by
  rw[cell_of_row _ _ 0 (stV x) _ _ (heap_alloc_new w _)];exact stV_0 x
 have fx:(w.alloc (.cells (stV x) 71)).frozen? ⟨w.heap.size,0,none⟩=false:=by
  have hb:=heap_alloc_new w (.cells (stV x) 71)
  unfold World.frozen?
  rw[hb]
  simp
 have Hu:=hd und_state.choose_spec
 by_cases hlt:x.1<s.size
 ·have hltI:(x.1:Int)<(s.size:Int):=by omega
  have h0I:(0:Int)≤(x.1:Int):=by omega
  have hc:(w.alloc (.cells (stV x) 71)).cell? ⟨b,1+s[x.1].toNat,none⟩=some (.bool (f s[x.1].toNat)):=hEa.fin.cell hb (hf _ (UInt8.toNat_lt s[x.1]))
  have hch:=ch_get s x.1 hlt
  have hcl:=UInt8.toNat_lt s[x.1]
  cases hfc:f s[x.1].toNat
  ·rw[hfc]at hc
   have HF:Hid (∀n,OutP w ((w.alloc (.cells (stV x) 71)).drewN n) (.returned (.slice none 0 0)) (fun v=>Md s.data.toList rf (.one f) x v)):=hd (fun n=>by
    have hbw:=alloc_below w (.cells (stV x) 71)
    refine outP_nil ⟨hbw.os,hbw.tape,hbw.output,hbw.size,hbw.block⟩ (fun u hu=>?_)
    simp only[Md]at hu
    rw[←hch,hfc]at hu
    exact absurd hu.2.1 (by simp))
   clear hE hEa hb h0 hf hch hfc
   go_enter Tryd.func43,Tryd.ntmps43
   go_wp2_with (first
    |refine wp_stx (.tmp 3) (stV x) rfl rfl rfl ?_)
   go_quiet (fail)
   go_wp2
   go_ret
   exact HF.out _
  ·rw[hfc]at hc
   have HR:Hid (∀n,(((w.alloc (.cells (stV x) 71)).drewN n).setCell ⟨w.heap.size,0,none⟩ (.int .i64 ((x.1:Int)+1))).rangeAt w.heap.size 0 (stL (x.1+1,x.2))):=hd (fun n=>range_put (w:=(w.alloc (.cells (stV x) 71)).drewN n) (heap_alloc_new w _) (x.1+1) _ (by omega))
   have HF:Hid (∀n,OutP w ((((w.alloc (.cells (stV x) 71)).drewN n).setCell ⟨w.heap.size,0,none⟩ (.int .i64 ((x.1:Int)+1))).alloc (.cells (stV (x.1+1,x.2)) 71)) (.returned (.slice (some ⟨w.heap.size+1,0,none⟩) 1 1)) (fun v=>Md s.data.toList rf (.one f) x v)):=hd (fun n=>by
    have hbw:=alloc_below w (.cells (stV x) 71)
    have hb2:Below w.heap.size w (((w.alloc (.cells (stV x) 71)).drewN n).setCell ⟨w.heap.size,0,none⟩ (.int .i64 ((x.1:Int)+1))):=(show Below w.heap.size w ((w.alloc (.cells (stV x) 71)).drewN n)from⟨hbw.os,hbw.tape,hbw.output,hbw.size,hbw.block⟩).setCell (p:=⟨w.heap.size,0,none⟩) (Nat.le_refl _) _
    have hsz:(((w.alloc (.cells (stV x) 71)).drewN n).setCell ⟨w.heap.size,0,none⟩ (.int .i64 ((x.1:Int)+1))).heap.size=w.heap.size+1:=by
     simp only[World.setCell,Array.size_modify]
     show(w.alloc _).heap.size=_
     simp
    have:=outP_one (M:=fun v=>Md s.data.toList rf (.one f) x v) (d:=(x.1+1,x.2)) hb2 (by rw[hsz];omega) (fun u=>by
     simp only[Md]
     rw[←hch,hfc,len_data]
     simp[hlt])
    rw[hsz]at this
    exact this)
   clear hE hEa hb h0 hf hch hfc
   go_enter Tryd.func43,Tryd.ntmps43
   go_wp2_with (first
    |refine wp_stx (.tmp 3) (stV x) rfl rfl rfl ?_)
   go_quiet (fail)
   go_wp2_with (first
    |refine wpList_load_mid rfl 71 (.tmp 7) rfl w.heap.size 0 (by rfl) (stL (x.1+1,x.2)) _ (HR.out _) Hu.out rfl info_state ?_
    |refine wp_one (.tmp 40) (x.1+1,x.2) rfl rfl (by rfl) ?_)
   go_ret
   exact HF.out _
 ·have hltI:¬(x.1:Int)<(s.size:Int):=by omega
  have HF:Hid (∀n,OutP w ((w.alloc (.cells (stV x) 71)).drewN n) (.returned (.slice none 0 0)) (fun v=>Md s.data.toList rf (.one f) x v)):=hd (fun n=>by
   have hbw:=alloc_below w (.cells (stV x) 71)
   refine outP_nil ⟨hbw.os,hbw.tape,hbw.output,hbw.size,hbw.block⟩ (fun u hu=>?_)
   simp only[Md]at hu
   rw[len_data]at hu
   exact hlt hu.1)
  clear hE hEa hb h0 hf
  go_enter Tryd.func43,Tryd.ntmps43
  go_wp2_with (first
   |refine wp_stx (.tmp 3) (stV x) rfl rfl rfl ?_)
  go_quiet (fail)
  go_wp2
  go_ret
  exact HF.out _
end
end Go.Proofs.YtldiemjlpnachaaDoor
namespace Go.Proofs.YtldiemjlpnachaaDoor
open Go.RowKit
theorem stands_sw{l:List UInt8}{a b i:Nat}(hb:b≤l.length)(hi:i≤l.length):sw l i ((l.drop a).take (b-a))=true↔Stands l a b i:=by
 have hlen:((l.drop a).take (b-a)).length=b-a:=by simp;omega
 unfold sw Stands
 rw[beq_iff_eq,hlen]
 have key:∀t,t<b-a→((l.drop i).take (b-a))[t]?=l[i+t]?∧((l.drop a).take (b-a))[t]?=l[a+t]?:=fun t ht=>by
  rw[List.getElem?_take_of_lt ht,List.getElem?_take_of_lt ht,List.getElem?_drop,List.getElem?_drop]
  exact⟨rfl,rfl⟩
 constructor
 ·intro h
  have hl:=congrArg List.length h
  rw[hlen]at hl
  simp only[List.length_take,List.length_drop]at hl
  refine⟨by omega,fun t ht=>?_⟩
  have:=congrArg (fun q:List UInt8=>q[t]?) h
  simp only[(key t ht).1,(key t ht).2]at this
  unfold ch
  rw[this]
 ·rintro⟨h1,h2⟩
  refine List.ext_getElem? fun t=>?_
  rcases Nat.lt_or_ge t (b-a)with ht|ht
  ·rw[(key t ht).1,(key t ht).2]
   have:=h2 t ht
   unfold ch at this
   rw[List.getElem?_eq_getElem (by omega),List.getElem?_eq_getElem (by omega)]at this ⊢
   simp only[Option.getD_some]at this
   rw[UInt8.toNat_inj.1 this]
  ·rw[List.getElem?_eq_none (by simp;omega),List.getElem?_eq_none (by rw[hlen];exact ht)]
set_option maxHeartbeats 400000 in
theorem starts_in(s t:ByteArray)(i:Nat)(w:World)(hs:s.size≤1000)(ht:t.size≤1000)(hi:i≤s.size):
  Calls Tryd.prog 49 #[.string s,.int .i64 i,.string t] w fun e w'=>e= .returned (.bool (sw s.data.toList i t.data.toList))∧w'=w:=by
 go_enter Tryd.func49,Tryd.ntmps49
 go_wp2
 all_goals go_ret
 all_goals first
  |exact⟨ret_bool (by rw[sw_len _ _ _ (by simp;omega) (by simp;omega)]),rfl⟩
  |exact⟨ret_bool (sw_yes s t i),rfl⟩
theorem starts_in_b(s t:ByteArray)(i:Nat)(b:Bool)(w:World)(hs:s.size≤1000)(ht:t.size≤1000)(hi:i≤s.size)(hb:sw s.data.toList i t.data.toList=b):
  Calls Tryd.prog 49 #[.string s,.int .i64 i,.string t] w fun e w'=>e= .returned (.bool b)∧w'=w:=by
 subst hb
 exact starts_in s t i w hs ht hi
theorem stV_ga(x:Ds)(n:Nat)(hn:n<10):(stV x)[1+n*2]?=some (.int .i64 (ga x n))∧(stV x)[1+n*2+1]?=some (.int .i64 (gb x n)):=by
 rcases(show n=0∨n=1∨n=2∨n=3∨n=4∨n=5∨n=6∨n=7∨n=8∨n=9 by omega)with rfl|rfl|rfl|rfl|rfl|rfl|rfl|rfl|rfl|rfl<;>exact⟨rfl,rfl⟩
section
variable {H : Fins} {s : ByteArray} {rf : List Nat} {P : Nat}
set_option maxRecDepth 100000 in
set_option maxHeartbeats 3200000 in
theorem ditem_back(w:World)(b n:Nat)(x:Ds)(arr:Array Value)(hfit:FitD s.size rf)(hn9:n≤9)(hx:OkD s.size rf x)(hE:Env w H P rf)(hb:H b=some arr)(h0:arr[0]?=some (.string ⟨#[98,97,99,107]⟩))(h57:arr[257]?=some (.int .i64 n)):
  Calls Tryd.prog 43 #[.pointer (some ⟨P,0,none⟩),.pointer (some ⟨b,0,none⟩),.string s,.agg (stV x)] w fun e w'=>OutP w w' e (fun v=>Md s.data.toList rf (.back n) x v):=by
 have hEa:=hE.below rfl (alloc_below w (.cells (stV x) 71))
 have cb:=hEa.fin.cell hb h0
 have cn:=hEa.fin.cell hb h57
 have hblk:=heap_alloc_new w (.cells (stV x) 71)
 have cx:(w.alloc (.cells (stV x) 71)).cell? ⟨w.heap.size,0,none⟩=some (.int .i64 x.1):=by
  rw[cell_of_row _ _ 0 (stV x) _ _ hblk];exact stV_0 x
 have cg0:(w.alloc (.cells (stV x) 71)).cell? ⟨w.heap.size,1+n*2,none⟩=some (.int .i64 (ga x n)):=by
  rw[cell_of_row _ _ _ (stV x) _ _ hblk];exact(stV_ga x n (by omega)).1
 have cg1:(w.alloc (.cells (stV x) 71)).cell? ⟨w.heap.size,1+n*2+1,none⟩=some (.int .i64 (gb x n)):=by
  rw[cell_of_row _ _ _ (stV x) _ _ hblk];exact(stV_ga x n (by omega)).2
 have fx:(w.alloc (.cells (stV x) 71)).frozen? ⟨w.heap.size,0,none⟩=false:=by
  unfold World.frozen?
  rw[hblk]
  simp
 have cx2:∀o:Obj,((w.alloc (.cells (stV x) 71)).alloc o).cell? ⟨w.heap.size,0,none⟩=some (.int .i64 x.1):=fun o=>(World.cell?_alloc_lt _ _ _ (by simp)).trans cx
 have fx2:∀o:Obj,((w.alloc (.cells (stV x) 71)).alloc o).frozen? ⟨w.heap.size,0,none⟩=false:=fun o=>(World.frozen?_alloc_old _ _ _ (by simp)).trans fx
 have Hu:=hd und_state.choose_spec
 have hbw:=alloc_below w (.cells (stV x) 71)
 have hsp:x.2[n]?=some (ga x n,gb x n)∧((ga x n= -1∧gb x n= -1)∨∃a c:Nat,a≤c∧c≤s.size∧ga x n=a∧gb x n=c):=by
  obtain⟨sp,h1,h2⟩:=hx.sp n (by omega)
  have e:x.2.getD n (0,0)=sp:=by rw[List.getD_eq_getElem?_getD,h1];rfl
  have ea:ga x n=sp.1:=by unfold ga;rw[e]
  have eb:gb x n=sp.2:=by unfold gb;rw[e]
  refine⟨by rw[h1,ea,eb],?_⟩
  rw[ea,eb]
  rcases h2 with rfl|⟨a,c,h3,h4,rfl⟩
  ·exact .inl ⟨rfl,rfl⟩
  ·exact .inr ⟨a,c,h3,h4,rfl,rfl⟩
 have hn0:(0:Int)≤(n:Int):=by omega
 have hn10:(n:Int)<10:=by omega
 have hxp:=hx.pl
 have HB2:Hid (∀(o:Obj) k,Below w.heap.size w (((w.alloc (.cells (stV x) 71)).alloc o).drewN k)):=hd (fun o k=>by
  have:=hbw.trans ((alloc_below (w.alloc (.cells (stV x) 71)) o).mono (by simp))
  exact⟨this.os,this.tape,this.output,this.size,this.block⟩)
 rcases hsp.2 with⟨ea,eb⟩|⟨a,c,hac,hcs,ea,eb⟩
 ·have hs9:=hfit.2.2.1
  rw[ea]at cg0
  rw[eb]at cg1
  have HF:Hid (∀(o:Obj) k,OutP w (((w.alloc (.cells (stV x) 71)).alloc o).drewN k) (.returned (.slice none 0 0)) (fun v=>Md s.data.toList rf (.back n) x v)):=hd (fun o k=>outP_nil (HB2.out o k) (fun u hu=>by
   simp only[Md]at hu
   obtain⟨a,c,h1,_⟩:=hu
   rw[hsp.1,ea,eb]at h1
   simp at h1))
  clear hE hEa hb h0 h57 hsp hx hbw hblk hfit
  go_enter Tryd.func43,Tryd.ntmps43
  go_wp2_with (first
   |refine wp_stx (.tmp 3) (stV x) rfl rfl rfl ?_)
  go_quiet (fail)
  go_wp2
  go_ret
  exact HF.out _ _
 ·have hs24:s.size≤24:=by
   rcases hfit.2.2.2 with e|h
   ·exfalso
    have h1:=hx.no n (by omega) (by rw[e];simp)
    rw[hsp.1,ea,eb]at h1
    simp at h1
   ·exact h
  clear hfit
  rw[ea]at cg0
  rw[eb]at cg1
  have hext:(s.extract a c).data.toList=(s.data.toList.drop a).take (c-a):=by
   have:=extract_list s a c
   rw[ByteArray.toList_eq]at this
   exact this
  have hexs:(s.extract a c).size≤1000:=by
   rw[ByteArray.size_extract];omega
  have Hstd:=hd (stands_sw (l:=s.data.toList) (a:=a) (b:=c) (i:=x.1) (by rw[len_data];exact hcs) (by rw[len_data];exact hxp))
  have haI:(0:Int)≤(a:Int):=by omega
  have hacI:(a:Int)≤(c:Int):=by omega
  have hcsI:(c:Int)≤(s.size:Int):=by omega
  have Hmd:Hid (∀u,Md s.data.toList rf (.back n) x u↔(Stands s.data.toList a c x.1∧u=(x.1+(c-a),x.2))):=hd (fun u=>by
   simp only[Md]
   rw[hsp.1,ea,eb]
   constructor
   ·rintro⟨a',c',h1,h2,h3⟩
    simp only[Option.some.injEq,Prod.mk.injEq]at h1
    obtain⟨rfl,rfl⟩:a'=a∧c'=c:=by omega
    exact⟨h2,h3⟩
   ·rintro⟨h2,h3⟩
    exact⟨a,c,rfl,h2,h3⟩)
  cases hsw:sw s.data.toList x.1 ((s.data.toList.drop a).take (c-a))
  ·have HF:Hid (∀(o:Obj) k,OutP w (((w.alloc (.cells (stV x) 71)).alloc o).drewN k) (.returned (.slice none 0 0)) (fun v=>Md s.data.toList rf (.back n) x v)):=hd (fun o k=>outP_nil (HB2.out o k) (fun u hu=>by
    have:=Hstd.out.2 ((Hmd.out u).1 hu).1
    rw[hsw]at this
    cases this))
   have Hst:=hd (fun w=>starts_in_b s (s.extract a c) x.1 false w (by omega) hexs hxp (by rw[hext];exact hsw))
   clear hE hEa hb h0 h57 hsp hx hbw hblk hext hexs hsw
   go_enter Tryd.func43,Tryd.ntmps43
   go_wp2_with (first
    |refine wp_stx (.tmp 3) (stV x) rfl rfl rfl ?_)
   go_quiet ((go_at_call 49;exact Calls.quiet_of_same (Hst.out _)))
   go_wp2
   go_ret
   exact HF.out _ _
  ·have hblk2:∀(o:Obj) k,(((w.alloc (.cells (stV x) 71)).alloc o).drewN k).heap[w.heap.size]?=some (.cells (stV x) 71 (0,0)):=fun o k=>(Below.heap_alloc _ _ _ (by simp)).trans hblk
   have HR:Hid (∀(o:Obj) k,((((w.alloc (.cells (stV x) 71)).alloc o).drewN k).setCell ⟨w.heap.size,0,none⟩ (.int .i64 ((x.1:Int)+((c:Int)-(a:Int))))).rangeAt w.heap.size 0 (stL (x.1+(c-a),x.2))):=hd (fun o k=>range_put (hblk2 o k) (x.1+(c-a)) _ (by omega))
   have HF:Hid (∀(o:Obj) k,OutP w (((((w.alloc (.cells (stV x) 71)).alloc o).drewN k).setCell ⟨w.heap.size,0,none⟩ (.int .i64 ((x.1:Int)+((c:Int)-(a:Int))))).alloc (.cells (stV (x.1+(c-a),x.2)) 71)) (.returned (.slice (some ⟨w.heap.size+1+1,0,none⟩) 1 1)) (fun v=>Md s.data.toList rf (.back n) x v)):=hd (fun o k=>by
    have hb2:=(HB2.out o k).setCell (p:=⟨w.heap.size,0,none⟩) (Nat.le_refl _) (.int .i64 ((x.1:Int)+((c:Int)-(a:Int))))
    have hsz:((((w.alloc (.cells (stV x) 71)).alloc o).drewN k).setCell ⟨w.heap.size,0,none⟩ (.int .i64 ((x.1:Int)+((c:Int)-(a:Int))))).heap.size=w.heap.size+1+1:=by
     simp only[World.setCell,Array.size_modify]
     show((w.alloc _).alloc _).heap.size=_
     simp
    have:=outP_one (M:=fun v=>Md s.data.toList rf (.back n) x v) (d:=(x.1+(c-a),x.2)) hb2 (by rw[hsz];omega) (fun u=>by
     rw[Hmd.out u]
     exact⟨fun h=>h.2,fun h=>⟨Hstd.out.1 hsw,h⟩⟩)
    rw[hsz]at this
    exact this)
   have Hst:=hd (fun w=>starts_in_b s (s.extract a c) x.1 true w (by omega) hexs hxp (by rw[hext];exact hsw))
   have hca:(c:Int)-(a:Int)≤24:=by omega
   clear hE hEa hb h0 h57 hsp hx hbw hblk hext hexs hsw hblk2
   go_enter Tryd.func43,Tryd.ntmps43
   go_wp2_with (first
    |refine wp_stx (.tmp 3) (stV x) rfl rfl rfl ?_)
   go_quiet ((go_at_call 49;exact Calls.quiet_of_same (Hst.out _)))
   go_wp2_with (first
    |refine wpList_load_mid rfl 71 (.tmp 7) rfl w.heap.size 0 (by rfl) (stL (x.1+(c-a),x.2)) _ (HR.out _ _) Hu.out rfl info_state ?_
    |refine wp_one (.tmp 91) (x.1+(c-a),x.2) rfl rfl (by rfl) ?_)
   go_ret
   exact HF.out _ _
end
end Go.Proofs.YtldiemjlpnachaaDoor

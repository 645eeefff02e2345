import Derived.Test.YtldiemjlpnachaaGreatDoorSv
import Derived.Test.YtldiemjlpnachaaGreatDoorDm
import Derived.Test.YtldiemjlpnachaaGreatDoorRItem
set_option maxHeartbeats 6400000
set_option maxRecDepth 100000
namespace Go.Proofs.YtldiemjlpnachaaGreatDoor
open Go.RowKit
def stZ:Array Value:=Array.replicate 998 (.slice none 0 0)
theorem run_sts(w:World):(Instr.build 111 #[]).run Tryz.prog w= .ok (.agg stZ) w:=by kernel_rfl
theorem run_stsx(C:Array Value)(w:World):(Instr.box 111 (.agg C)).run Tryz.prog w= .ok (.pointer (some ⟨w.heap.size,0,none⟩)) (w.alloc (.cells C 111)):=by kernel_rfl
section
variable {ops : Array Oper} {rest : List Oper} {o : Oper} {a : Act} {w : World} {Q : Exit → Act → World → Prop}
theorem wp_sts(hg:o.guard=none)(ho:o.op= .build 111 #[])(h:wpList Tryz.prog ops Q rest (a.put o.dst (.agg stZ)) w):wpList Tryz.prog ops Q (o::rest) a w:=by
 refine wpList_plain hg fun K hK=>?_
 unfold Oper.wp execOp
 simp only[ho,Sem.run_bind]
 rw[show((#[]:Array (Nat×Operand)).map fun(x:Nat×Operand)=>(x.1,a.eval x.2))= #[]from by kernel_rfl,run_sts]
 exact hK _ _ h
theorem wp_stsx(x:Operand)(C:Array Value)(hg:o.guard=none)(ho:o.op= .box 111 x)(hx:a.eval x= .agg C)
  (h:wpList Tryz.prog ops Q rest (a.put o.dst (.pointer (some ⟨w.heap.size,0,none⟩))) (w.alloc (.cells C 111))):wpList Tryz.prog ops Q (o::rest) a w:=by
 refine wpList_plain hg fun K hK=>?_
 unfold Oper.wp execOp
 simp only[ho,Sem.run_bind]
 rw[hx,run_stsx]
 exact hK _ _ h
theorem wp_one(x:Operand)(d:Ds)(hg:o.guard=none)(ho:o.op= .buildSlice 72 1 #[(0,x)])(hx:a.eval x= .agg (stV d))
  (h:wpList Tryz.prog ops Q rest (a.put o.dst (.slice (some ⟨w.heap.size,0,none⟩) 1 1)) (w.alloc (.cells (stV d) 77))):wpList Tryz.prog ops Q (o::rest) a w:=by
 refine wpList_plain hg fun K hK=>?_
 unfold Oper.wp execOp
 simp only[ho,Sem.run_bind]
 rw[show(#[(0,x)].map fun(x:Nat×Operand)=>(x.1,a.eval x.2))= #[(0,a.eval x)]from by kernel_rfl,hx,run_one]
 exact hK _ _ h
end
theorem sts_new(w:World):Sts (w.alloc (.cells stZ 111)) w.heap.size w.heap.size (fun k=>if k=w.heap.size then some 998 else none) []:=by
 have hz:∀i,i<998->(w.alloc (.cells stZ 111)).cell? ⟨w.heap.size,i,none⟩=some (.slice none 0 0):=fun i hi=>by
  rw[cell_of_row _ _ i stZ _ _ (heap_alloc_new w _)]
  unfold stZ
  rw[Array.getElem?_replicate,if_pos hi]
 refine⟨⟨_,hz 0 (by omega),World.ownsRow_nil _ _ _ _,fun k hk=>by simp[Value.ownBlock]at hk⟩,fun n hn=>⟨_,hz (1+n) (by omega),World.ownsRow_nil _ _ _ _,fun k hk=>by simp[Value.ownBlock]at hk⟩,fun i=>?_,by simp,fun k hk=>?_⟩
 ·have hb:=heap_alloc_new w (.cells stZ 111)
  unfold World.frozen?
  rw[hb]
  simp
 ·by_cases e:k=w.heap.size
  ·subst e;simp
  ·simp[e]at hk
structure Env(w:World)(H:Fins)(P:Nat)(rf:List Nat):Prop where
 fin:RFin w H
 used:∀i,i<10->w.cell? ⟨P,2+i,none⟩=some (.bool (rf.contains i))
theorem Env.below{w w':World}{H:Fins}{P X:Nat}{rf:List Nat}(h:Env w H P rf)(hX:X=w.heap.size)(hb:Below X w w'):Env w' H P rf:=by
 subst hX
 refine⟨fun g arr hg=>?_,fun i hi=>(hb.cell (World.block_lt_of_cell? w _ (h.used i hi))).trans (h.used i hi)⟩
 obtain⟨t,fr,ht⟩:=h.fin g arr hg
 exact⟨t,fr,(hb.block g (h.fin.lt hg)).trans ht⟩
def OutP(w w':World)(e:Ending)(M:Ds->Prop):Prop:=∃(L:List Ds) (v:Value),e= .returned v/\Below w.heap.size w w'/\w'.ownsRow w.heap.size 77 21 v L.length (sts L)/\L.Nodup/\∀u,u∈L↔M u
def DItem(H:Fins)(d:Nat)(s:ByteArray)(rf:List Nat)(P:Nat):Prop:=∀(w:World) (b:Nat) (it:It) (x:Ds),Env w H P rf->RItemOk H d b it->OkD s.size rf x->
  Calls Tryz.prog 35 #[.pointer (some ⟨P,0,none⟩),.pointer (some ⟨b,0,none⟩),.string s,.agg (stV x)] w fun e w'=>OutP w w' e (fun v=>Md s.data.toList rf it.3 x v)
theorem OkD.okH{n:Nat}{rf:List Nat}{d:Ds}(h:OkD n rf d)(hn:n<=1000000000):OkH d:=by
 have key:∀k,k<10->d.2.getD k (0,0)=(-1,-1)\/∃a b:Nat,a<=b/\b<=n/\d.2.getD k (0,0)=((a:Int),(b:Int)):=fun k hk=>by
  obtain⟨s,h1,h2⟩:=h.sp k hk
  rw[List.getD_eq_getElem?_getD,h1]
  exact h2
 refine⟨h.len,by have:=h.pl;omega,fun k hk=>?_,fun k hk=>?_⟩
 ·rcases key k hk with e|⟨a,b,h1,h2,e⟩
  ·rw[e];decide
  ·rw[e];constructor<;>simp only<;>omega
 ·rcases key k hk with e|⟨a,b,h1,h2,e⟩
  ·rw[e];decide
  ·rw[e];constructor<;>simp only<;>omega
theorem owns_one{w:World}{base:Nat}(d:Ds)(hb:base<=w.heap.size):(w.alloc (.cells (stV d) 77)).ownsRow base 77 21 (.slice (some ⟨w.heap.size,0,none⟩) 1 1) 1 (sts [d]):=by
 refine⟨rfl,.inr ⟨w.heap.size,1,stV d,rfl,hb,heap_alloc_new w _,Nat.le_refl _,by decide,rfl,?_⟩⟩
 show(stV d).toList.take 21=sts [d]
 unfold sts
 simp only[List.flatMap_cons,List.flatMap_nil,List.append_nil]
 exact List.take_of_length_le (by rw[show(stV d).toList.length=21 from rfl];exact Nat.le_refl _)
theorem range_at{w:World}{base g cap:Nat}{L:List Ds}(h:w.ownsRow base 77 21 (.slice (some ⟨g,0,none⟩) L.length cap) L.length (sts L)){i:Nat}(hi:i<L.length):w.rangeAt g (i*21) (stL L[i]):=fun jj v hv=>by
 have hjj:jj<21:=by have:=(List.getElem?_eq_some_iff.1 hv).1;rw[stL_len]at this;exact this
 exact owns_cell h (i*21+jj) v (by rw[sts_at L i jj hi hjj];exact hv)
theorem range_new(w:World)(d:Ds):(w.alloc (.cells (stV d) 77)).rangeAt w.heap.size 0 (stL d):=by
 have:=World.rangeAt_of_block (heap_alloc_new w (.cells (stV d) 77)) 0 21
 rw[show((stV d).extract 0 (0+21)).toList=stL d by kernel_rfl]at this
 exact this
theorem owns_some{w:World}{base e size n cap:Nat}{a:Option Addr}{xs:List Value}(h:w.ownsRow base e size (.slice a n cap) n xs)(hn:0<n):∃g,a=some ⟨g,0,none⟩:=by
 rcases h.2 with⟨_,h0⟩|⟨k,_,_,hv,_⟩
 ·omega
 ·simp only[Value.slice.injEq]at hv;exact⟨k,hv.1⟩
theorem all_count{n:Nat}{rf:List Nat}(hf:FitD n rf){L:List Ds}(hn:L.Nodup)(hL:∀d∈L,OkD n rf d):L.length<=2000000000/\∀d∈L,d.2.length=10:=⟨okD_count hf hn hL,fun d hd=>(hL d hd).len⟩
theorem owns_base{w:World}{b b' e size n:Nat}{v:Value}{xs:List Value}(h:w.ownsRow b e size v n xs)(hb:b'<=b):w.ownsRow b' e size v n xs:=by
 refine⟨h.1,?_⟩
 rcases h.2 with h0|⟨g,cap,cur,h1,h2,h3⟩
 ·exact .inl h0
 ·exact .inr ⟨g,cap,cur,h1,Nat.le_trans hb h2,h3⟩
structure DIn(X T:Nat)(w w2:World)(tg:Nat->Option Nat)(N:List Ds)(M:Ds->Prop):Prop where
 bl:Below X w w2
 st:Sts w2 T T tg N
 nd:N.Nodup
 mem:∀v,v∈N↔M v
def Kps(w2:World)(tg:Nat->Option Nat)(b:Nat)(v:Value)(L:List Ds):Prop:=w2.ownsRow b 77 21 v L.length (sts L)/\∀k,v.ownBlock=some k->tg k=none
section
variable {X T : Nat} {w w2 w3 w4 : World} {tg tg' : Nat → Option Nat} {N L : List Ds} {M : Ds → Prop} {v : Value} {b : Nat}
theorem DIn.below(h:DIn X T w w2 tg N M)(hX:X<=w2.heap.size)(hb:Below w2.heap.size w2 w3):DIn X T w w3 tg N M:=⟨h.bl.trans (hb.mono hX),h.st.below hb,h.nd,h.mem⟩
theorem Kps.below(h:Kps w2 tg b v L)(hb:Below w2.heap.size w2 w3):Kps w3 tg b v L:=⟨owns_same h.1 (fun k hk=>hb.block k (owns_lt h.1 hk)),h.2⟩
theorem Kps.gro(h:Kps w2 tg b v L)(hg:Gro w2 w3 tg tg'):Kps w3 tg' b v L:=by
 refine⟨owns_same h.1 (fun k hk=>hg.block k (owns_lt h.1 hk) (h.2 k hk)),fun k hk=>?_⟩
 cases e:tg' k with
 |none=>rfl
 |some z=>
  rcases hg.tag k (by rw[e];simp)with h1|h1
  ·exact absurd (h.2 k hk) h1
  ·have:=owns_lt h.1 hk;omega
theorem DIn.add{x:Ds}(h:DIn X T w w2 tg N M)(hX:X<=w2.heap.size)(hXT:X<=T)(hs:Sts w3 T T tg' (addD N x))(hg:Gro w2 w3 tg tg'):DIn X T w w3 tg' (addD N x) (fun v=>M v\/v=x):=by
 refine⟨h.bl.trans ⟨hg.os,hg.tape,hg.output,hg.size,fun k hk=>hg.block k (by omega) ?_⟩,hs,nodup_addD h.nd,fun v=>by rw[mem_addD,h.mem]⟩
 cases e:tg k with
 |none=>rfl
 |some z=>have:=(h.st.tl k (by rw[e];simp)).1;omega
theorem DIn.cg{M':Ds->Prop}(h:DIn X T w w2 tg N M)(hm:∀v,M v↔M' v):DIn X T w w2 tg N M':=⟨h.bl,h.st,h.nd,fun v=>(h.mem v).trans (hm v)⟩
end
theorem mem_take_succ{α:Type}{L:List α}{i:Nat}(hi:i<L.length)(v:α):v∈L.take (i+1)↔v∈L.take i\/v=L[i]:=by
 rw[take_snoc' L i hi,List.mem_append,List.mem_singleton]
theorem alloc_below(w:World)(o:Obj):Below w.heap.size w (w.alloc o):=(Below.refl _ _).alloc (Nat.le_refl _) _
theorem drow_any{H:Fins}{d:Nat}{s:ByteArray}{rf:List Nat}{P:Nat}(hI:DItem H d s rf P)(hfit:FitD s.size rf)(w:World)(ao:Option Addr)(rn rc:Nat)(its:List It)(x:Ds)(hE:Env w H P rf)(hR:RRow (RItemOk H d) H ao rn its)(hx:OkD s.size rf x):
  Calls Tryz.prog 21 #[.pointer (some ⟨P,0,none⟩),.slice ao rn rc,.string s,.agg (stV x)] w fun e w'=>OutP w w' e (fun v=>MdRow s.data.toList rf (its.map (·.3)) x v):=by
 obtain⟨hlen,hrn,hrow⟩:=hR
 have HI:=hd hI
 have Hfit:=hd hfit
 have HE:=hd hE
 have Hx:=hd hx
 have Hrow:=hd hrow
 have Hlen:=hd hlen
 have Hok:Hid (∀(t:Tr) (u v:Ds),OkD s.size rf u->Md s.data.toList rf t u v->OkD s.size rf v):=hd (fun t u v h1 h2=>by have:=md_ok s.data.toList rf hfit.1 t u v (by rw[len_data];exact h1) h2;rw[len_data]at this;exact this.1)
 have Hokr:Hid (∀(r:List Tr) (u v:Ds),OkD s.size rf u->MdRow s.data.toList rf r u v->OkD s.size rf v):=hd (fun t u v h1 h2=>by have:=mdRow_ok s.data.toList rf hfit.1 t u v (by rw[len_data];exact h1) h2;rw[len_data]at this;exact this.1)
 have HR0:=hd (range_new w x)
 have hu:=und_state.choose_spec
 have hi21:∀e:Ds,(Tryz.prog.info? 77).map (·.size)=some (stL e).length:=fun e=>info_state
 have Hu:=hd hu
 have Hi21:=hd hi21
 clear hI hfit hE hx hrow hlen hu hi21
 go_enter Tryz.func21,Tryz.ntmps21
 go_wp2_with (first
  |refine wp_stx (.tmp 3) (stV x) rfl rfl rfl ?_
  |refine wpList_load_mid rfl 77 (.tmp 7) rfl w.heap.size 0 (by rfl) (stL x) _ HR0.out Hu.out rfl (Hi21.out x) ?_
  |refine wp_one (.tmp 17) x rfl rfl (by rfl) ?_)
 obtain⟨X,hX⟩:∃X,w.heap.size=X:=⟨_,rfl⟩
 have HX:=hd hX
 have Hb0:Hid (Below X w ((w.alloc (.cells (stV x) 77)).alloc (.cells (stV x) 77))):=hd (by rw[<-hX];exact(alloc_below w _).trans ((alloc_below _ _).mono (by simp)))
 have Ho0:Hid (((w.alloc (.cells (stV x) 77)).alloc (.cells (stV x) 77)).ownsRow X 77 21 (.slice (some ⟨X+1,0,none⟩) 1 1) 1 (sts [x])):=hd (by
  have:=owns_one (w:=w.alloc (.cells (stV x) 77)) (base:=X) x (by simp;omega)
  rw[show(w.alloc (.cells (stV x) 77)).heap.size=X+1 by simp;omega]at this
  exact this)
 clear HR0
 generalize (w.alloc (.cells (stV x) 77)).alloc (.cells (stV x) 77)=W0 at*
 simp only[hX]
 clear hX
 go_loopg [9,21] (rn+1) (fun f lv kv wr=>∃(k:Nat) (L:List Ds) (la:Option Addr) (lc:Nat),kv= .int .i64 k/\lv= .slice la L.length lc/\k<=rn/\rn<k+f/\Hid (Below X w wr)/\Hid (wr.ownsRow X 77 21 (.slice la L.length lc) L.length (sts L))/\Hid (L.Nodup/\∀v,v∈L↔MdRow s.data.toList rf ((its.take k).map (·.3)) x v))
 case atStart=>exact⟨0,[x],_,_,rfl,rfl,by omega,by omega,Hb0,Ho0,hd ⟨by simp,fun v=>by simp[MdRow]⟩⟩
 case round=>
  obtain⟨k,L,la,lc,rfl,rfl,hk,hkf,HB,HO,HM⟩:=hrel
  by_cases hlt:k<rn
  ·obtain⟨g,arr,hra,hg,hP⟩:∃g arr,ao=some ⟨g,0,none⟩/\H g=some arr/\∀i (h:i<its.length),∃b,arr[i]?=some (.pointer (some ⟨b,0,none⟩))/\RItemOk H d b its[i]:=by
    rcases Hrow.out with h|h
    ·omega
    ·exact h
   have hkl:k<its.length:=by rw[Hlen.out];exact hlt
   obtain⟨b,hb,hit⟩:=hP k hkl
   subst hra
   have HEr:=hd (HE.out.below HX.out.symm HB.out)
   have hcell:wr.cell? ⟨g,k,none⟩=some (.pointer (some ⟨b,0,none⟩)):=HEr.out.fin.cell hg hb
   obtain⟨y,hy⟩:∃y,y=its[k]:=⟨_,rfl⟩
   rw[<-hy]at hit
   have Hit:=hd hit
   have Htk:Hid ((its.take (k+1)).map (·.3)=(its.take k).map (·.3)++ [y.3]):=hd (by rw[take_snoc' its k hkl,List.map_append,hy];rfl)
   have HLok:Hid (∀z∈L,OkD s.size rf z):=hd (fun z hz=>Hokr.out _ _ _ Hx.out ((HM.out.2 z).1 hz))
   have hLn:L.length<=2000000000:=(all_count Hfit.out HM.out.1 HLok.out).1
   have hLI:(L.length:Int)<=2000000000:=by omega
   clear hit hy hb hP hg
   obtain⟨gf,rfl⟩:∃gf,gk=gf+1:=⟨gk-1,by omega⟩
   go_wp2_with (first
    |refine wp_sts rfl rfl ?_
    |refine wp_stsx (.tmp 25) stZ rfl rfl (by rfl) ?_)
   obtain⟨T,hT⟩:∃T,wr.heap.size=T:=⟨_,rfl⟩
   have hXT:X<=T:=by have:=HB.out.size;have:=HX.out;omega
   have HIn:Hid (DIn X T w (wr.alloc (.cells stZ 111)) (fun k=>if k=T then some 998 else none) [] (fun v=>∃z∈L.take 0,Md s.data.toList rf y.3 z v)):=hd (by
    subst hT
    exact⟨HB.out.trans ((alloc_below wr _).mono hXT),sts_new wr,by simp,fun v=>by simp⟩)
   have HK:Hid (Kps (wr.alloc (.cells stZ 111)) (fun k=>if k=T then some 998 else none) X (.slice la L.length lc) L):=hd (by
    subst hT
    refine⟨HO.out.alloc _,fun k hk=>?_⟩
    have:=owns_lt HO.out hk
    exact if_neg (by omega))
   have hTs:T<(wr.alloc (.cells stZ 111)).heap.size:=by simp;omega
   generalize wr.alloc (.cells stZ 111)=W1 at*
   simp only[hT]
   clear hT hcell HEr HB HO
   go_loopg [29] (L.length+1) (fun f iv w2=>∃(i:Nat) (N:List Ds) (tg:Nat->Option Nat),iv= .int .i64 i/\i<=L.length/\L.length<i+f/\T<w2.heap.size/\Hid (DIn X T w w2 tg N (fun v=>∃z∈L.take i,Md s.data.toList rf y.3 z v))/\Hid (Kps w2 tg X (.slice la L.length lc) L))
   case atStart=>exact⟨0,[],_,rfl,by omega,by omega,hTs,HIn,HK⟩
   case round=>
    clear HIn HK hTs
    obtain⟨i,N,tg,rfl,hi,hif,hTs,HIn,HK⟩:=hrel
    by_cases hil:i<L.length
    ·obtain⟨gl,rfl⟩:=owns_some HK.out.1 (by omega)
     obtain⟨z,hz⟩:∃z,z=L[i]:=⟨_,rfl⟩
     have HR1:Hid (wr.rangeAt gl (i*21) (stL z)):=hd (by rw[hz];exact range_at HK.out.1 hil)
     have HR2:=hd (range_new wr z)
     have Hzo:Hid (OkD s.size rf z):=hd (HLok.out z (by rw[hz];exact List.getElem_mem hil))
     have Htki:Hid (∀v,v∈L.take (i+1)↔v∈L.take i\/v=z):=hd (fun v=>by rw[hz];exact mem_take_succ hil v)
     have hXw:X<=wr.heap.size:=by omega
     have Hcall:Hid (Calls Tryz.prog 35 #[.pointer (some ⟨P,0,none⟩),.pointer (some ⟨b,0,none⟩),.string s,.agg (stV z)] (wr.alloc (.cells (stV z) 77)) fun e w'=>OutP (wr.alloc (.cells (stV z) 77)) w' e (fun v=>Md s.data.toList rf y.3 z v)):=
      hd (HI.out _ b y z (HE.out.below HX.out.symm (HIn.out.bl.trans ((alloc_below wr _).mono hXw))) Hit.out Hzo.out)
     have hiI:(i:Int)<(L.length:Int):=by omega
     have hi0:(0:Int)<=(i:Int):=by omega
     clear hz
     obtain⟨gf2,rfl⟩:∃gf2,gk=gf2+1:=⟨gk-1,by omega⟩
     go_wp2_with (first
      |refine wpList_load_mid rfl 77 (.tmp 31) rfl gl (i*21) (by rfl) (stL z) _ HR1.out Hu.out rfl (Hi21.out z) ?_
      |(refine wpList_store_row rfl 77 (.tmp 14) (.tmp 32) rfl wr.heap.size (stV z) (by rfl) (by rfl) 77 _ (heap_alloc_new _ _) info_state rfl (stV_one z) ?_;rw[World.setRow_alloc_new])
      |refine wpList_load_mid rfl 77 (.tmp 14) rfl wr.heap.size 0 (by rfl) (stL z) _ HR2.out Hu.out rfl (Hi21.out z) ?_
      |(go_at_call 35;refine Hcall.out.mono ?_;rintro e w4 ⟨C,cv,rfl,hb4,ho4,hn4,hm4⟩;obtain⟨ca,cc,rfl⟩:=owns_shape ho4))
     have hXa:X<=(wr.alloc (.cells (stV z) 77)).heap.size:=by simp;omega
     have HIn4:Hid (DIn X T w w4 tg N (fun v=>∃z∈L.take i,Md s.data.toList rf y.3 z v)):=hd ((HIn.out.below hXw (alloc_below wr _)).below hXa hb4)
     have HK4:Hid (Kps w4 tg X (.slice (some ⟨gl,0,none⟩) L.length lc) L):=hd ((HK.out.below (alloc_below wr _)).below hb4)
     have HC4:Hid (Kps w4 tg wr.heap.size (.slice ca C.length cc) C):=hd (by
      refine⟨owns_base ho4 (by simp),fun k hk=>?_⟩
      cases e:tg k with
      |none=>rfl
      |some q=>
       have h1:=(HIn.out.st.tl k (by rw[e];simp)).2
       have h2:=(ho4.lt k hk).1
       simp at h2
       omega)
     have hT4:T<w4.heap.size:=by have:=hb4.size;simp at this;omega
     have Hmc:=hd hm4
     have HCok:Hid (∀u∈C,OkD s.size rf u):=hd (fun u hu=>Hok.out _ _ _ Hzo.out ((hm4 u).1 hu))
     have hCn:C.length<=2000000000:=(all_count Hfit.out hn4 HCok.out).1
     have hCI:(C.length:Int)<=2000000000:=by omega
     have HNok:Hid (∀v,(∃z∈L.take i,Md s.data.toList rf y.3 z v)->OkD s.size rf v):=hd (fun v hv=>by
      obtain⟨z,h1,h2⟩:=hv
      exact Hok.out _ _ _ (HLok.out z (List.mem_of_mem_take h1)) h2)
     generalize hbs:wr.heap.size=bs at HC4
     have Hbs:=hd hbs
     clear hbs hb4 ho4 hn4 hm4 HIn HK HR1 HR2 Hcall hXa hXw hTs
     go_loopg [39] (C.length+1) (fun f jv w5=>∃(j:Nat) (N':List Ds) (tg':Nat->Option Nat),jv= .int .i64 j/\j<=C.length/\C.length<j+f/\T<w5.heap.size/\Hid (DIn X T w w5 tg' N' (fun v=>(∃z∈L.take i,Md s.data.toList rf y.3 z v)\/v∈C.take j))/\Hid (Kps w5 tg' X (.slice (some ⟨gl,0,none⟩) L.length lc) L)/\Hid (Kps w5 tg' bs (.slice ca C.length cc) C))
     case atStart=>exact⟨0,N,tg,rfl,by omega,by omega,hT4,hd (HIn4.out.cg (fun v=>by simp)),HK4,HC4⟩
     case round=>
      clear HIn4 HK4 HC4 hT4
      obtain⟨j,N',tg',rfl,hj,hjf,hT5,HIn,HK,HC⟩:=hrel
      by_cases hjl:j<C.length
      ·obtain⟨gc,rfl⟩:=owns_some HC.out.1 (by omega)
       obtain⟨u,hu⟩:∃u,u=C[j]:=⟨_,rfl⟩
       have HR1:Hid (wr.rangeAt gc (j*21) (stL u)):=hd (by rw[hu];exact range_at HC.out.1 hjl)
       have HR2:=hd (range_new wr u)
       have Huo:Hid (OkD s.size rf u):=hd (HCok.out u (by rw[hu];exact List.getElem_mem hjl))
       have Htkj:Hid (∀v,v∈C.take (j+1)↔v∈C.take j\/v=u):=hd (fun v=>by rw[hu];exact mem_take_succ hjl v)
       have hXw:X<=wr.heap.size:=by omega
       have HIa:=hd (HIn.out.below hXw (alloc_below wr (.cells (stV u) 77)))
       have HKa:=hd (HK.out.below (alloc_below wr (.cells (stV u) 77)))
       have HCa:=hd (HC.out.below (alloc_below wr (.cells (stV u) 77)))
       have hcnt:=all_count Hfit.out HIn.out.nd (fun v hv=>by
        rcases(HIn.out.mem v).1 hv with h|h
        ·exact HNok.out v h
        ·exact HCok.out v (List.mem_of_mem_take h))
       have Hcall:=hd (dadd_any HIa.out.st hcnt.2 u (Huo.out.okH Hfit.out.2.2.1) hcnt.1 (by simp;omega))
       have hjI:(j:Int)<(C.length:Int):=by omega
       have hj0:(0:Int)<=(j:Int):=by omega
       clear hu hcnt
       obtain⟨gf3,rfl⟩:∃gf3,gk=gf3+1:=⟨gk-1,by omega⟩
       go_wp2_with (first
        |refine wpList_load_mid rfl 77 (.tmp 41) rfl gc (j*21) (by rfl) (stL u) _ HR1.out Hu.out rfl (Hi21.out u) ?_
        |(refine wpList_store_row rfl 77 (.tmp 16) (.tmp 42) rfl wr.heap.size (stV u) (by rfl) (by rfl) 77 _ (heap_alloc_new _ _) info_state rfl (stV_one u) ?_;rw[World.setRow_alloc_new])
        |refine wpList_load_mid rfl 77 (.tmp 16) rfl wr.heap.size 0 (by rfl) (stL u) _ HR2.out Hu.out rfl (Hi21.out u) ?_
        |(go_at_call 36;refine Hcall.out.mono ?_;rintro e w7 ⟨rfl,tg7,hs7,hg7⟩))
       have HI7:=hd ((HIa.out.add (by simp;omega) hXT hs7 hg7).cg (M':=fun v=>(∃z∈L.take i,Md s.data.toList rf y.3 z v)\/v∈C.take (j+1)) (fun v=>by rw[Htkj.out v,or_assoc]))
       have HK7:=hd (HKa.out.gro hg7)
       have HC7:=hd (HCa.out.gro hg7)
       have hT7:T<w7.heap.size:=by have:=hg7.size;simp at this;omega
       clear hs7 hg7 Hcall HIa HKa HCa
       go_roundg gf3
       case measure=>omega
       case rel=>exact⟨j+1,_,tg7,by go_num,by omega,by omega,hT7,HI7,HK7,HC7⟩
      ·obtain rfl:j=C.length:=by omega
       have HI8:=hd (HIn.out.cg (M':=fun v=>∃z∈L.take (i+1),Md s.data.toList rf y.3 z v) (fun v=>by
        rw[List.take_length,Hmc.out v]
        constructor
        ·rintro(⟨q,h1,h2⟩|h)
         ·exact⟨q,(Htki.out q).2 (.inl h1),h2⟩
         ·exact⟨z,(Htki.out z).2 (.inr rfl),h⟩
        ·rintro⟨q,h1,h2⟩
         rcases(Htki.out q).1 h1 with h|rfl
         ·exact .inl ⟨q,h,h2⟩
         ·exact .inr h2))
       go_wp2
       go_roundg gf2
       case measure=>omega
       case rel=>exact⟨i+1,N',tg',by go_num,by omega,by omega,hT5,HI8,HK⟩
    ·obtain rfl:i=L.length:=by omega
     obtain⟨vl,hvl,hol,htl⟩:=HIn.out.st.cl
     obtain⟨na,nc,rfl⟩:=owns_shape hol
     have HM2:Hid (N.Nodup/\∀v,v∈N↔MdRow s.data.toList rf ((its.take (k+1)).map (·.3)) x v):=hd ⟨HIn.out.nd,fun v=>by
      rw[HIn.out.mem v,Htk.out,mdRow_snoc,List.take_length]
      constructor
      ·rintro⟨z,h1,h2⟩;exact⟨z,(HM.out.2 z).1 h1,h2⟩
      ·rintro⟨z,h1,h2⟩;exact⟨z,(HM.out.2 z).2 h1,h2⟩⟩
     have HO2:=hd (owns_base hol hXT)
     have HB2:=hd HIn.out.bl
     clear hol htl
     go_wp2
     go_roundg gf
     case measure=>omega
     case rel=>exact⟨k+1,N,na,nc,by go_num,rfl,by omega,by omega,HB2,HO2,HM2⟩
  ·obtain rfl:k=rn:=by omega
   have HF:Hid (OutP w wr (.returned (.slice la L.length lc)) (fun v=>MdRow s.data.toList rf (its.map (·.3)) x v)):=hd (by
    refine⟨L,_,rfl,by rw[HX.out];exact HB.out,by rw[HX.out];exact HO.out,HM.out.1,fun u=>?_⟩
    rw[HM.out.2 u,<-Hlen.out,List.take_length])
   go_wp2
   go_ret
   exact HF.out
end Go.Proofs.YtldiemjlpnachaaGreatDoor

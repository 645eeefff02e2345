import Derived.Test.YtldiemjlpnachaaGreatDoorBrk
import Derived.Test.YtldiemjlpnachaaGreatDoorByte
import Derived.Test.YtldiemjlpnachaaGreatDoorTwin
set_option maxHeartbeats 3200000
set_option maxRecDepth 100000
namespace Go.Proofs.YtldiemjlpnachaaGreatDoor
open Go.RowKit
theorem Rd.scal{w W:World}{base R:Nat}{s:ByteArray}{H:Fins}{σ σ':St}{pl:List Nat}(h:Rd w base R s H σ)(hch:Ch w W R none pl)(n4:4 ∉ pl)(n5:5 ∉ pl)(hin:σ'.inner.items=σ.inner.items)(hout':σ'.outer=σ.outer)
  (c0:W.cell? ⟨R,0,none⟩=some (.string s))(c1:W.cell? ⟨R,1,none⟩=some (.int .i64 σ'.pos))(c2:W.cell? ⟨R,2,none⟩=some (.int .i64 σ'.inner.number))(c3:W.cell? ⟨R,3,none⟩=some (.int .i64 σ'.inner.start))(c6:W.cell? ⟨R,6,none⟩=some (.int .i64 σ'.groups))
  (c7:∀i,i<10->W.cell? ⟨R,7+i,none⟩=some (.bool (σ'.closed i)))(rf:RfOk W base R σ'.refl):Rd W base R s H σ'/\Below R w W:=by
 have hR:=h.hR
 have hb:=h.hb
 have blk:∀k,base<=k->k<w.heap.size->W.heap[k]?=w.heap[k]?:=fun k h1 h2=>hch.block k h2 (by omega) (by simp)
 obtain⟨vi,vo,rs,h4,h5,⟨cs,hcs,hown⟩,ho,hout,hap⟩:=h.rows
 refine⟨⟨hR,Nat.le_trans hb hch.size,c0,c1,c2,c3,c6,c7,rf,fun i hi=>(hch.frozen i).trans (h.fz i hi),fun k arr hk=>(blk k (h.finb k arr hk) (h.fin.lt hk)).trans (h.fin k arr hk),h.finb,?_⟩,hch.below (by omega) (fun k hk=>by cases hk)⟩
 rw[hin,hout']
 exact⟨vi,vo,rs,(hch.cell 4 n4).trans h4,(hch.cell 5 n5).trans h5,⟨cs,hcs,owns_same hown (fun k hk=>blk k (hown.lt k hk).1 (hown.lt k hk).2)⟩,owns_same ho (fun k hk=>blk k (ho.lt k hk).1 (ho.lt k hk).2),hout.same (fun v hv k hk=>blk k (hout.lt v hv k hk).1 (hout.lt v hv k hk).2),hap⟩
theorem setR_ne(U:World)(R i j:Nat)(x:Value)(h:i≠j):(U.setCell ⟨R,i,none⟩ x).cell? ⟨R,j,none⟩=U.cell? ⟨R,j,none⟩:=World.cell?_setCell_other _ _ _ _ (by rintro e;cases e;exact h rfl)
theorem Rd.moved{w:World}{base R:Nat}{s:ByteArray}{H:Fins}{σ:St}(h:Rd w base R s H σ)(q:Nat):Rd (w.setCell ⟨R,1,none⟩ (.int .i64 q)) base R s H {σ with pos:=q}/\Below R w (w.setCell ⟨R,1,none⟩ (.int .i64 q)):=by
 refine h.scal (pl:= [1]) ((Ch.refl _ _ _ _).put 1 (by simp) _) (by simp) (by simp) rfl rfl ?_ (World.cell?_setCell_same _ _ _ h.c1) ?_ ?_ ?_ ?_ ?_
 ·rw[setR_ne _ _ _ _ _ (by omega)];exact h.c0
 ·rw[setR_ne _ _ _ _ _ (by omega)];exact h.c2
 ·rw[setR_ne _ _ _ _ _ (by omega)];exact h.c3
 ·rw[setR_ne _ _ _ _ _ (by omega)];exact h.c6
 ·intro i hi;rw[setR_ne _ _ _ _ _ (by omega)];exact h.c7 i hi
 ·exact h.rf.ch (row:=none) (pl:= [1]) ((Ch.refl _ _ _ _).put 1 (by simp) _) (by simp) h.hR (fun k hk=>by cases hk)
theorem OutOk.typ{w:World}{base:Nat}{H:Fins}:∀ {vs:List Value} {rs:List Rw},OutOk w base H vs rs->∀v∈vs,∀k,v.ownBlock=some k->∃cur,w.heap[k]?=some (.cells cur 119 (0,0))
 | [],[],_,v,hv=>by simp at hv
 |u::vs,_::_,h,v,hv=>by
  rcases List.mem_cons.1 hv with rfl|hv
  ·obtain⟨cs,_,ho⟩:=h.1
   exact fun k hk=>owns_typ ho hk
  ·exact OutOk.typ h.2 v hv
 | [],_::_,h,_,_=>h.elim
 |_::_,[],h,_,_=>h.elim
theorem Rd.refd{w W:World}{base R:Nat}{s:ByteArray}{H:Fins}{σ:St}{v:Value}{n m:Nat}{xs:List Value}(h:Rd w base R s H σ)(hv:w.ownsRow base 3 1 v m xs)(hch:Ch w W R v.ownBlock [17])(hrf:RfOk W base R (σ.refl++ [n])):
  Rd W base R s H {σ with refl:=σ.refl++ [n]}/\Below R w W:=by
 have hR:=h.hR
 have hb:=h.hb
 have blk:∀k cur e,w.heap[k]?=some (.cells cur e (0,0))->e≠3->base<=k->W.heap[k]?=w.heap[k]?:=fun k cur e hk he hbk=>hch.block k (Array.getElem?_eq_some_iff.1 hk).1 (by omega) (fun e'=>by
  obtain⟨c2,h2⟩:=owns_typ hv e'.symm
  rw[hk]at h2
  cases h2
  exact he rfl)
 have cl:∀i,i≠17->W.cell? ⟨R,i,none⟩=w.cell? ⟨R,i,none⟩:=fun i hi=>hch.cell i (by simpa using hi)
 obtain⟨vi,vo,rs,h4,h5,⟨cs,hcs,hown⟩,ho,hout,hap⟩:=h.rows
 refine⟨⟨hR,Nat.le_trans hb hch.size,(cl 0 (by omega)).trans h.c0,(cl 1 (by omega)).trans h.c1,(cl 2 (by omega)).trans h.c2,(cl 3 (by omega)).trans h.c3,(cl 6 (by omega)).trans h.c6,fun i hi=>(cl _ (by omega)).trans (h.c7 i hi),hrf,fun i hi=>(hch.frozen i).trans (h.fz i hi),fun k arr hk=>(blk k arr _ (h.fin k arr hk) (by decide) (h.finb k arr hk)).trans (h.fin k arr hk),h.finb,?_⟩,hch.below (by omega) (fun k hk=>by have:=(hv.lt k hk).1;omega)⟩
 refine⟨vi,vo,rs,(cl 4 (by omega)).trans h4,(cl 5 (by omega)).trans h5,⟨cs,hcs,owns_same hown (fun k hk=>?_)⟩,owns_same ho (fun k hk=>?_),hout.same (fun u hu k hk=>?_),hap⟩
 ·obtain⟨cur,hc⟩:=owns_typ hown hk
  exact blk k cur _ hc (by decide) (hown.lt k hk).1
 ·obtain⟨cur,hc⟩:=owns_typ ho hk
  exact blk k cur _ hc (by decide) (ho.lt k hk).1
 ·obtain⟨cur,hc⟩:=hout.typ u hu k hk
  exact blk k cur _ hc (by decide) (hout.lt u hu k hk).1
theorem Rd.refdApp{w w1:World}{base R g cap cp n:Nat}{ao:Option Addr}{s:ByteArray}{H:Fins}{σ:St}{o:Obj}{u:Value}(h:Rd w base R s H σ)(hv:w.ownsRow base 3 1 (.slice ao σ.refl.length cp) σ.refl.length (ints σ.refl))
  (hown1:w1.ownsRow base 3 1 (.slice (some ⟨g,0,none⟩) (σ.refl.length+1) cap) (σ.refl.length+1) (ints σ.refl++ [.int .i64 n]))(hgrow:(w.alloc o).grownBy w1 (Value.slice ao σ.refl.length cp).ownBlock)(r17:w1.cell? ⟨R,17,none⟩=some u):
  Rd (w1.setCell ⟨R,17,none⟩ (.slice (some ⟨g,0,none⟩) (σ.refl.length+1) cap)) base R s H {σ with refl:=σ.refl++ [n]}/\Below R w (w1.setCell ⟨R,17,none⟩ (.slice (some ⟨g,0,none⟩) (σ.refl.length+1) cap)):=by
 have hR:=h.hR
 have hb:=h.hb
 have hg:g≠R:=by
  have:=(owns_cells hown1).choose_spec.1
  omega
 have ag:(Value.slice ao σ.refl.length cp).ownBlock≠some R:=by
  intro e
  have:=(hv.lt R e).1
  omega
 refine h.refd hv ((((Ch.refl w R _ [17]).alloc (by omega) o).grown hgrow (by omega) ag).put 17 (by simp) _) ⟨_,World.cell?_setCell_same _ _ _ r17,ownsRow_setCell_other ?_ (by simp[Value.ownBlock];exact hg) _⟩
 have e:ints (σ.refl++ [n])=ints σ.refl++ [.int .i64 n]:=by simp[ints]
 rw[e,List.length_append,List.length_singleton]
 exact hown1
def refT(σ:St)(n:Nat):Nat×St:=
 if σ.groups<n\/σ.closed n=false then(10,σ)
 else if σ.referred n=true then(0,{σ with pos:=σ.pos+2,inner:= {σ.inner with items:=σ.inner.items++ [itBack n]}})
 else if 2<=σ.refs then(10,σ)
 else(0,{σ with refl:=σ.refl++ [n],pos:=σ.pos+2,inner:= {σ.inner with items:=σ.inner.items++ [itBack n]}})
def ww8(a0 a1 a2 a3 a4 a5 a6 a7:Int):Nat->Int:=fun i=>match i with|0=>a0|1=>a1|2=>a2|3=>a3|4=>a4|5=>a5|6=>a6|_=>a7
theorem ok_plain(H:Fins)(k:Int)(a0 a1 a2 a3 a4 a5 a6 a7 num:Int)(t:Tr)(h0:0<=k)(h1:k<=3)(ht:Plain k (ww8 a0 a1 a2 a3 a4 a5 a6 a7) num t):∃d,ItemOk H d [.int .i64 k,.int .u32 a0,.int .u32 a1,.int .u32 a2,.int .u32 a3,.int .u32 a4,.int .u32 a5,.int .u32 a6,.int .u32 a7,.int .i64 num,.int .i64 0,.int .i64 0,.slice none 0 0] ⟨k,1,t⟩:=
 ⟨1,ww8 a0 a1 a2 a3 a4 a5 a6 a7,num,0,0,none,0,0,rfl,h0,by show k<=5;omega,by show(0:Int)<=1;omega,by show(1:Int)<=202;omega,.inr (.inr ⟨by show k≠4;omega,by show k≠5;omega,rfl,ht⟩)⟩
theorem ok_one(H:Fins){a0 a1 a2 a3 a4 a5 a6 a7:Int}(f:Nat->Bool)(h:W8 a0 a1 a2 a3 a4 a5 a6 a7 f):∃d,ItemOk H d [.int .i64 0,.int .u32 a0,.int .u32 a1,.int .u32 a2,.int .u32 a3,.int .u32 a4,.int .u32 a5,.int .u32 a6,.int .u32 a7,.int .i64 0,.int .i64 0,.int .i64 0,.slice none 0 0] (itOne f):=by
 refine ok_plain H 0 a0 a1 a2 a3 a4 a5 a6 a7 0 (.one f) (by omega) (by omega) (.inl ⟨rfl,f,rfl,fun i hi=>?_⟩)
 obtain⟨h0,h1,h2,h3,h4,h5,h6,h7⟩:=h
 rcases(show i=0\/i=1\/i=2\/i=3\/i=4\/i=5\/i=6\/i=7 by omega)with rfl|rfl|rfl|rfl|rfl|rfl|rfl|rfl<;>assumption
theorem ok_beg(H:Fins):∃d,ItemOk H d [.int .i64 1,.int .u32 0,.int .u32 0,.int .u32 0,.int .u32 0,.int .u32 0,.int .u32 0,.int .u32 0,.int .u32 0,.int .i64 0,.int .i64 0,.int .i64 0,.slice none 0 0] itBeg:=
 ok_plain H 1 0 0 0 0 0 0 0 0 0 .beg (by omega) (by omega) (.inr (.inl ⟨rfl,rfl⟩))
theorem ok_fin(H:Fins):∃d,ItemOk H d [.int .i64 2,.int .u32 0,.int .u32 0,.int .u32 0,.int .u32 0,.int .u32 0,.int .u32 0,.int .u32 0,.int .u32 0,.int .i64 0,.int .i64 0,.int .i64 0,.slice none 0 0] itFin:=
 ok_plain H 2 0 0 0 0 0 0 0 0 0 .fin (by omega) (by omega) (.inr (.inr (.inl ⟨rfl,rfl⟩)))
theorem ok_back(H:Fins)(n:Nat):∃d,ItemOk H d [.int .i64 3,.int .u32 0,.int .u32 0,.int .u32 0,.int .u32 0,.int .u32 0,.int .u32 0,.int .u32 0,.int .u32 0,.int .i64 n,.int .i64 0,.int .i64 0,.slice none 0 0] (itBack n):=
 ok_plain H 3 0 0 0 0 0 0 0 0 n (.back n) (by omega) (by omega) (.inr (.inr (.inr ⟨rfl,n,rfl,rfl⟩)))
theorem refersTo_any(R:Nat)(v:Value)(base:Nat)(rl:List Nat)(n:Nat)(w:World)(h17:w.cell? ⟨R,17,none⟩=some v)(ho:w.ownsRow base 3 1 v rl.length (ints rl))(hl:rl.length<=2)(b:Bool)(hb:rl.contains n=b):
  Calls Tryz.prog 80 #[.pointer (some ⟨R,0,none⟩),.int .i64 n] w fun e w'=>e= .returned (.bool b)/\w'=w:=by
 have Hb:=hd hb
 obtain⟨ao,cp,rfl⟩:=owns_shape ho
 have Hcell:Hid (∀i (h:i<rl.length),∃g,ao=some ⟨g,0,none⟩/\w.cell? ⟨g,i,none⟩=some (.int .i64 rl[i])):=hd (fun i hi=>by
  obtain⟨g,cap,he,_,_⟩:=ho.form (by omega)
  simp only[Value.slice.injEq]at he
  obtain⟨rfl,_,rfl⟩:=he
  exact⟨g,rfl,owns_cell ho i _ (by unfold ints;rw[List.getElem?_map,List.getElem?_eq_getElem hi];rfl)⟩)
 clear hb ho
 go_enter Tryz.func80,Tryz.ntmps80
 go_wp2
 go_loop [6,12] (fun _ i=>∃k:Nat,i= .int .i64 k/\k<=rl.length/\Hid (∀j,j<k->rl[j]?≠some n)) (fun _ i=>rl.length-(intOf i).toNat)
 case atStart=>exact⟨0,rfl,Nat.zero_le _,hd (fun j hj=>by omega)⟩
 case round=>
  obtain⟨k,rfl,hk,Hno⟩:=hrel
  by_cases hlt:k<rl.length
  ·obtain⟨g,rfl,hc⟩:=Hcell.out k hlt
   have hk1:(k:Int)<(rl.length:Int):=by omega
   by_cases hn:rl[k]=n
   ·have HB:Hid (b=true):=hd (by rw[<-Hb.out,<-hn];simp)
    rw[hn]at hc
    go_wp2
    go_ret
    rw[HB.out]
    exact⟨rfl,rfl⟩
   ·have hne:(((rl[k]:Nat):Int)==(n:Int))=false:=by simp;omega
    have Hnn:Hid (rl[k]?≠some n):=hd (by rw[List.getElem?_eq_getElem hlt];simpa using hn)
    clear hn
    generalize ((rl[k]:Nat):Int)=y at*
    go_wp2
    go_round
    case rel=>exact⟨k+1,by go_num,by omega,hd (fun j hj=>by
     rcases Nat.lt_or_ge j k with h|h
     ·exact Hno.out j h
     ·obtain rfl:j=k:=by omega
      exact Hnn.out)⟩
    case measure=>simp[intOf];omega
  ·obtain rfl:k=rl.length:=by omega
   have HB:Hid (b=false):=hd (by
    rw[<-Hb.out]
    cases hx:rl.contains n with
    |false=>rfl
    |true=>
     have hm:n∈rl:=by simpa using hx
     obtain⟨j,hj,e⟩:=List.getElem_of_mem hm
     exact absurd (by rw[List.getElem?_eq_getElem hj,e]) (Hno.out j hj))
   go_wp2
   go_ret
   rw[HB.out]
   exact⟨rfl,rfl⟩
theorem reference_rd{w:World}{base R:Nat}{s:ByteArray}{H:Fins}{σ:St}(h:Rd w base R s H σ)(n:Nat)(hn1:1<=n)(hn9:n<=9)(hp:σ.pos<=1000)(hi:σ.inner.items.length<=1000)(hrf:σ.refs<=2):
  Calls Tryz.prog 61 #[.pointer (some ⟨R,0,none⟩),.int .i64 n] w fun e w'=>e= .returned (.int .i64 (refT σ n).1)/\Rd w' base R s H (refT σ n).2/\Below R w w':=by
 have c6:=h.c6
 have c7:=h.c7 n (by omega)
 obtain⟨v,h17,hv⟩:=h.rf
 have f17:=h.fz 17 (by omega)
 have n0:(0:Int)<=(n:Int):=by omega
 have n1:(n:Int)<10:=by omega
 by_cases hg:σ.groups<n
 ·have Hz:Hid (refT σ n=(10,σ)):=by unfold refT;rw[if_pos (.inl hg)];exact hd rfl
  clear hv
  go_enter Tryz.func61,Tryz.ntmps61
  go_wp2
  go_ret
  rw[Hz.out]
  exact⟨rfl,h,Below.refl _ _⟩
 ·cases hc:σ.closed n
  ·have Hz:Hid (refT σ n=(10,σ)):=by unfold refT;rw[if_pos (.inr hc)];exact hd rfl
   rw[hc]at c7
   clear hc hv
   go_enter Tryz.func61,Tryz.ntmps61
   go_wp2
   go_ret
   rw[Hz.out]
   exact⟨rfl,h,Below.refl _ _⟩
  ·rw[hc]at c7
   cases hr:σ.referred n
   ·have Hto:=hd (refersTo_any R v base σ.refl n w h17 hv hrf false hr)
    obtain⟨ao,cp,rfl⟩:=owns_shape hv
    by_cases h2:2<=σ.refs
    ·have Hz:Hid (refT σ n=(10,σ)):=by unfold refT;rw[if_neg (by simp[hc];omega),if_neg (by simp[hr]),if_pos h2];exact hd rfl
     have h2':(2:Int)<=(σ.refl.length:Int):=by unfold St.refs at h2;omega
     clear hc hr hv
     go_enter Tryz.func61,Tryz.ntmps61
     go_wp2_with (go_at_call 80;refine Hto.out.mono ?_;rintro e w' ⟨rfl,rfl⟩)
     go_ret
     rw[Hz.out]
     exact⟨rfl,h,Below.refl _ _⟩
    ·have Hz:Hid (refT σ n=(0,{σ with refl:=σ.refl++ [n],pos:=σ.pos+2,inner:= {σ.inner with items:=σ.inner.items++ [itBack n]}})):=by unfold refT;rw[if_neg (by simp[hc];omega),if_neg (by simp[hr]),if_neg h2];exact hd rfl
     have h2':(σ.refl.length:Int)<2:=by unfold St.refs at h2;omega
     obtain⟨i0,hi0,hz0,hz1,hz2⟩:=info_parts info_int
     have ag:(Value.slice ao σ.refl.length cp).ownBlock≠some R:=by
      intro e
      have:=(hv.lt R e).1
      have:=h.hR
      omega
     have lR:=World.block_lt_of_cell? w _ h17
     have hbs:=h.hb
     have HR0:=hd h
     have Hv:=hd hv
     clear hc hr hv h
     go_enter Tryz.func61,Tryz.ntmps61
     go_wp2_with fail
     refine Hto.out.mono ?_
     rintro e w' ⟨rfl,hww⟩
     subst hww
     go_wp2_with
      (refine wpList_append_lies _ (by rfl) _ _ _ (by rfl) base 3 i0 _ 1 8 uInts hi0 hz0 hz1 hz2 rfl (by omega) (.slice ao σ.refl.length cp) σ.refl.length (ints σ.refl) (by rfl) (Hv.out.alloc _)
        ⟨w'.heap.size,0,none⟩ 1 1 [.int .i64 n] (by rfl) (by rfl) (World.news_of_block (cs:= #[.int .i64 n]) (t:=3) (fr:=(0,0)) (heap_alloc_new _ _)) (by simp[Value.oneCell'])
        (by omega) (by unfold maxLen;omega) (by omega) (by first|omega|(simp;omega)) (w'.heap.size+1) (by simp) ?_
       intro g cap w1 hown1 hgrow hat hlt
       have r17:w1.cell? ⟨R,17,none⟩=some (.slice ao σ.refl.length cp):=(hgrow.cell_far _ (by simp;omega) (Ne.symm ag)).trans ((World.cell?_alloc_lt _ _ _ lR).trans h17)
       have rf17:w1.frozen? ⟨R,17,none⟩=false:=(hgrow.frozen_far _ (by simp;omega) (Ne.symm ag)).trans ((World.frozen?_alloc_old _ _ _ (by show R≠_;omega)).trans f17)
       have HD:=hd (HR0.out.refdApp Hv.out hown1 hgrow r17)
       clear hown1 hgrow hat hlt)
     refine(put_rd HD.out.1 2 (by omega) hp hi 3 0 0 0 0 0 0 0 0 n 0 0 none 0 0 (itBack n) (ok_back H n)).mono ?_
     rintro e w2 ⟨rfl,hrd,hbw⟩
     have HR:=hd hrd
     have HW:=hd (HD.out.2.trans hbw)
     clear hrd hbw
     go_wp2
     go_ret
     rw[Hz.out]
     exact⟨rfl,HR.out,HW.out⟩
   ·have Hto:=hd (refersTo_any R v base σ.refl n w h17 hv hrf true hr)
    have Hz:Hid (refT σ n=(0,{σ with pos:=σ.pos+2,inner:= {σ.inner with items:=σ.inner.items++ [itBack n]}})):=by unfold refT;rw[if_neg (by simp[hc];omega),if_pos hr];exact hd rfl
    clear hc hr hv
    go_enter Tryz.func61,Tryz.ntmps61
    go_wp2_with fail
    refine Hto.out.mono ?_
    rintro e w' ⟨rfl,rfl⟩
    go_wp2_with fail
    refine(put_rd h 2 (by omega) hp hi 3 0 0 0 0 0 0 0 0 n 0 0 none 0 0 (itBack n) (ok_back H n)).mono ?_
    rintro e w' ⟨rfl,hrd,hbw⟩
    have HR:=hd hrd
    have HW:=hd hbw
    clear hrd hbw
    go_wp2
    go_ret
    rw[Hz.out]
    exact⟨rfl,HR.out,HW.out⟩
end Go.Proofs.YtldiemjlpnachaaGreatDoor
namespace Go.Proofs.YtldiemjlpnachaaGreatDoor
open Go.RowKit
attribute [local go_sem ↓] Go.wp_at_zero Go.wp_at_succ
def brkT(l:List UInt8)(σ:St):Nat×St:=
 if(brk l σ.pos).1=0 then(0,{σ with pos:=(brk l σ.pos).2,inner:= {σ.inner with items:=σ.inner.items++ [itOne (brkSet l σ.pos)]}})else((brk l σ.pos).1,{σ with pos:=(brk l σ.pos).2})
theorem brac_set{w w2:World}(hb:Below (w.alloc (.cells #[.int .u32 0,.int .u32 0,.int .u32 0,.int .u32 0,.int .u32 0,.int .u32 0,.int .u32 0,.int .u32 0] 93)).drew.heap.size (w.alloc (.cells #[.int .u32 0,.int .u32 0,.int .u32 0,.int .u32 0,.int .u32 0,.int .u32 0,.int .u32 0,.int .u32 0] 93)).drew w2):SetAt w2 w.heap.size 0:=by
 intro i hi
 have e1:w2.cell? ⟨w.heap.size,0+i,none⟩=(w.alloc (.cells #[.int .u32 0,.int .u32 0,.int .u32 0,.int .u32 0,.int .u32 0,.int .u32 0,.int .u32 0,.int .u32 0] 93)).cell? ⟨w.heap.size,0+i,none⟩:=hb.cell (by simp)
 have e2:w2.frozen? ⟨w.heap.size,0+i,none⟩=(w.alloc (.cells #[.int .u32 0,.int .u32 0,.int .u32 0,.int .u32 0,.int .u32 0,.int .u32 0,.int .u32 0,.int .u32 0] 93)).frozen? ⟨w.heap.size,0+i,none⟩:=hb.frozen (by simp)
 refine⟨⟨0,e1.trans ?_⟩,e2.trans (by simp)⟩
 rcases(show i=0\/i=1\/i=2\/i=3\/i=4\/i=5\/i=6\/i=7 by omega)with rfl|rfl|rfl|rfl|rfl|rfl|rfl|rfl<;>simp
def BMid(w W:World)(Bs:Nat)(z0 z1 z2 z3 z4 z5 z6 z7:Int):Prop:=Below w.heap.size w W/\w.heap.size<=Bs/\W.cell? ⟨Bs,0,none⟩=some (.int .u32 z0)/\W.cell? ⟨Bs,1,none⟩=some (.int .u32 z1)/\W.cell? ⟨Bs,2,none⟩=some (.int .u32 z2)/\W.cell? ⟨Bs,3,none⟩=some (.int .u32 z3)/\W.cell? ⟨Bs,4,none⟩=some (.int .u32 z4)/\W.cell? ⟨Bs,5,none⟩=some (.int .u32 z5)/\W.cell? ⟨Bs,6,none⟩=some (.int .u32 z6)/\W.cell? ⟨Bs,7,none⟩=some (.int .u32 z7)
theorem bmid1{w w2:World}(z0 z1 z2 z3 z4 z5 z6 z7:Int)(hb:Below w.heap.size w w2):BMid w (w2.alloc (.cells #[.int .u32 z0,.int .u32 z1,.int .u32 z2,.int .u32 z3,.int .u32 z4,.int .u32 z5,.int .u32 z6,.int .u32 z7] 93)) w2.heap.size z0 z1 z2 z3 z4 z5 z6 z7:=
 ⟨hb.alloc hb.size _,hb.size,by simp,by simp,by simp,by simp,by simp,by simp,by simp,by simp⟩
theorem bmid2{w w2:World}{B:Nat}(z0 z1 z2 z3 z4 z5 z6 z7:Int)(hB:w.heap.size<=B)(hb:Below w.heap.size w w2)(hs:SetAt w2 B 0):BMid w ((((((((w2.setCell ⟨B,0,none⟩ (.int .u32 z0)).setCell ⟨B,1,none⟩ (.int .u32 z1)).setCell ⟨B,2,none⟩ (.int .u32 z2)).setCell ⟨B,3,none⟩ (.int .u32 z3)).setCell ⟨B,4,none⟩ (.int .u32 z4)).setCell ⟨B,5,none⟩ (.int .u32 z5)).setCell ⟨B,6,none⟩ (.int .u32 z6)).setCell ⟨B,7,none⟩ (.int .u32 z7)) B z0 z1 z2 z3 z4 z5 z6 z7:=by
 obtain⟨y0,y1,y2,y3,y4,y5,y6,y7,x0,x1,x2,x3,x4,x5,x6,x7⟩:=hs.at0
 have same:∀(U:World) (i:Nat) (u v:Value),U.cell? ⟨B,i,none⟩=some u->(U.setCell ⟨B,i,none⟩ v).cell? ⟨B,i,none⟩=some v:=fun U i u v h=>World.cell?_setCell_same _ _ _ h
 have ne:∀(U:World) (i j:Nat) (x:Value),i≠j->(U.setCell ⟨B,i,none⟩ x).cell? ⟨B,j,none⟩=U.cell? ⟨B,j,none⟩:=fun U i j x h=>setR_ne U B i j x h
 refine⟨(((((((hb.setCell hB _).setCell hB _).setCell hB _).setCell hB _).setCell hB _).setCell hB _).setCell hB _).setCell hB _,hB,?_,?_,?_,?_,?_,?_,?_,?_⟩
 ·rw[ne _ _ _ _ (by omega),ne _ _ _ _ (by omega),ne _ _ _ _ (by omega),ne _ _ _ _ (by omega),ne _ _ _ _ (by omega),ne _ _ _ _ (by omega),ne _ _ _ _ (by omega)];exact same _ _ (.int .u32 y0) _ (by exact x0)
 ·rw[ne _ _ _ _ (by omega),ne _ _ _ _ (by omega),ne _ _ _ _ (by omega),ne _ _ _ _ (by omega),ne _ _ _ _ (by omega),ne _ _ _ _ (by omega)];exact same _ _ (.int .u32 y1) _ (by rw[ne _ _ _ _ (by omega)];exact x1)
 ·rw[ne _ _ _ _ (by omega),ne _ _ _ _ (by omega),ne _ _ _ _ (by omega),ne _ _ _ _ (by omega),ne _ _ _ _ (by omega)];exact same _ _ (.int .u32 y2) _ (by rw[ne _ _ _ _ (by omega),ne _ _ _ _ (by omega)];exact x2)
 ·rw[ne _ _ _ _ (by omega),ne _ _ _ _ (by omega),ne _ _ _ _ (by omega),ne _ _ _ _ (by omega)];exact same _ _ (.int .u32 y3) _ (by rw[ne _ _ _ _ (by omega),ne _ _ _ _ (by omega),ne _ _ _ _ (by omega)];exact x3)
 ·rw[ne _ _ _ _ (by omega),ne _ _ _ _ (by omega),ne _ _ _ _ (by omega)];exact same _ _ (.int .u32 y4) _ (by rw[ne _ _ _ _ (by omega),ne _ _ _ _ (by omega),ne _ _ _ _ (by omega),ne _ _ _ _ (by omega)];exact x4)
 ·rw[ne _ _ _ _ (by omega),ne _ _ _ _ (by omega)];exact same _ _ (.int .u32 y5) _ (by rw[ne _ _ _ _ (by omega),ne _ _ _ _ (by omega),ne _ _ _ _ (by omega),ne _ _ _ _ (by omega),ne _ _ _ _ (by omega)];exact x5)
 ·rw[ne _ _ _ _ (by omega)];exact same _ _ (.int .u32 y6) _ (by rw[ne _ _ _ _ (by omega),ne _ _ _ _ (by omega),ne _ _ _ _ (by omega),ne _ _ _ _ (by omega),ne _ _ _ _ (by omega),ne _ _ _ _ (by omega)];exact x6)
 ·exact same _ _ (.int .u32 y7) _ (by rw[ne _ _ _ _ (by omega),ne _ _ _ _ (by omega),ne _ _ _ _ (by omega),ne _ _ _ _ (by omega),ne _ _ _ _ (by omega),ne _ _ _ _ (by omega),ne _ _ _ _ (by omega)];exact x7)
theorem brac_below{w w2:World}(hb:Below (w.alloc (.cells #[.int .u32 0,.int .u32 0,.int .u32 0,.int .u32 0,.int .u32 0,.int .u32 0,.int .u32 0,.int .u32 0] 93)).drew.heap.size (w.alloc (.cells #[.int .u32 0,.int .u32 0,.int .u32 0,.int .u32 0,.int .u32 0,.int .u32 0,.int .u32 0,.int .u32 0] 93)).drew w2):Below w.heap.size w w2:=
 ((Below.refl _ _).alloc (Nat.le_refl _) _).drew.trans (hb.mono (by simp))
theorem bracket_rd{w:World}{base R:Nat}{s:ByteArray}{H:Fins}{σ:St}(h:Rd w base R s H σ)(hnm:NamesIn w)(hs:s.size<=60)(hp:σ.pos<s.size)(hi:σ.inner.items.length<=1000)(hq:(brk s.data.toList σ.pos).2<=1000)(he:(brk s.data.toList σ.pos).1<=100):
  Calls Tryz.prog 38 #[.pointer (some ⟨R,0,none⟩)] w fun e w'=>e= .returned (.int .i64 (brkT s.data.toList σ).1)/\Rd w' base R s H (brkT s.data.toList σ).2/\Below R w w':=by
 have c0:=h.c0
 have c1:=h.c1
 have lR:R<w.heap.size:=by have:=h.hR;have:=h.hb;omega
 have nR:w.heap.size≠R:=by omega
 have Hrd:=hd h
 obtain⟨e0,q,hbk⟩:∃e0 q,brk s.data.toList σ.pos=(e0,q):=⟨_,_,rfl⟩
 rw[hbk]at hq he
 simp only at hq he
 have Hbk:=hd hbk
 have f1:=h.fz 1 (by omega)
 clear h hbk
 go_enter Tryz.func38,Tryz.ntmps38
 go_wp2
 go_region_held3 (fun w'=>w'.cell? ⟨R,0,none⟩=some (.string s)/\w'.cell? ⟨R,1,none⟩=some (.int .i64 σ.pos)) (go_keep)
  ((go_at_call 62;refine(readBracket_any s σ.pos _ (by first|exact hnm|exact hnm.alloc _) hs hp).mono ?_;rintro e w2 ⟨z0,z1,z2,z3,z4,z5,z6,z7,rfl,hw8,hb2⟩;have H8:=hd hw8;clear hw8;have nR2:w2.heap.size≠R:=(by have:=hb2.size;simp at this;omega);have r0:w2.cell? ⟨R,0,none⟩=some (.string s):=(hb2.cell (by first|exact lR|(simp;omega))).trans (by go_keep);have r1:w2.cell? ⟨R,1,none⟩=some (.int .i64 σ.pos):=(hb2.cell (by first|exact lR|(simp;omega))).trans (by go_keep);first|(have hset:=brac_set hb2;obtain⟨y0,y1,y2,y3,y4,y5,y6,y7,x0,x1,x2,x3,x4,x5,x6,x7⟩:=hset.at0;obtain⟨v0,v1,v2,v3,v4,v5,v6,v7⟩:=hset.free0)|skip))
 ·have hM:=bmid1 (w:=w) (w2:=w2) z0 z1 z2 z3 z4 z5 z6 z7 ((Below.refl _ w).drew.trans hb2)
  clear hb2 nR2 r0 r1 c0 c1 f1
  generalize w2.alloc (.cells #[.int .u32 z0,.int .u32 z1,.int .u32 z2,.int .u32 z3,.int .u32 z4,.int .u32 z5,.int .u32 z6,.int .u32 z7] 93)=W at hM ⊢
  generalize w2.heap.size=Bs at hM ⊢
  obtain⟨hbw,hBs,n0,n1,n2,n3,n4,n5,n6,n7⟩:=hM
  have hrdW:=Hrd.out.below hbw
  have c1:=hrdW.c1
  have f1:=hrdW.fz 1 (by omega)
  have hBR:Bs≠R:=by omega
  have HW:=hd hrdW
  have HB:=hd (hbw.mono (Nat.le_of_lt lR))
  clear hrdW hbw
  simp only[Hbk.out]
  by_cases he0:e0=0
  ·subst he0
   have Hz:Hid (brkT s.data.toList σ=(0,{σ with pos:=q,inner:= {σ.inner with items:=σ.inner.items++ [itOne (brkSet s.data.toList σ.pos)]}})):=by unfold brkT;rw[Hbk.out];exact hd rfl
   have g:∀k,(W.setCell ⟨R,1,none⟩ (.int .i64 q)).cell? ⟨Bs,k,none⟩=W.cell? ⟨Bs,k,none⟩:=fun k=>World.cell?_setCell_far _ _ _ _ (by show R≠Bs;omega)
   have m0:=(g 0).trans n0
   have m1:=(g 1).trans n1
   have m2:=(g 2).trans n2
   have m3:=(g 3).trans n3
   have m4:=(g 4).trans n4
   have m5:=(g 5).trans n5
   have m6:=(g 6).trans n6
   have m7:=(g 7).trans n7
   clear g
   go_wp2_with fail
   refine(put_rd (HW.out.moved q).1 0 (by omega) hq hi 0 z0 z1 z2 z3 z4 z5 z6 z7 0 0 0 none 0 0 (itOne (brkSet s.data.toList σ.pos)) (ok_one H _ (H8.out (by rw[Hbk.out])))).mono ?_
   rintro e w' ⟨rfl,hrd,hbw⟩
   have HR:=hd hrd
   have HX:=hd (HB.out.trans ((HW.out.moved q).2.trans hbw))
   clear hrd hbw
   go_wp2
   go_ret
   rw[Hz.out]
   exact⟨rfl,HR.out,HX.out⟩
  ·have Hz:Hid (brkT s.data.toList σ=(e0,{σ with pos:=q})):=by unfold brkT;rw[Hbk.out,if_neg he0];exact hd rfl
   have hb0:((e0:Int)==0)=false:=by simp;omega
   clear he0
   go_wp2
   go_ret
   rw[Hz.out]
   exact⟨rfl,(HW.out.moved q).1,HB.out.trans (HW.out.moved q).2⟩
 ·have hM:=bmid2 (w:=w) z0 z1 z2 z3 z4 z5 z6 z7 (Nat.le_refl _) (brac_below hb2) hset
  clear hb2 nR2 r0 r1 c0 c1 f1 hset x0 x1 x2 x3 x4 x5 x6 x7 v0 v1 v2 v3 v4 v5 v6 v7
  generalize ((((((((w2.setCell ⟨w.heap.size,0,none⟩ (.int .u32 z0)).setCell ⟨w.heap.size,1,none⟩ (.int .u32 z1)).setCell ⟨w.heap.size,2,none⟩ (.int .u32 z2)).setCell ⟨w.heap.size,3,none⟩ (.int .u32 z3)).setCell ⟨w.heap.size,4,none⟩ (.int .u32 z4)).setCell ⟨w.heap.size,5,none⟩ (.int .u32 z5)).setCell ⟨w.heap.size,6,none⟩ (.int .u32 z6)).setCell ⟨w.heap.size,7,none⟩ (.int .u32 z7))=W at hM ⊢
  generalize hBs0:w.heap.size=Bs
  have hM2:BMid w W Bs z0 z1 z2 z3 z4 z5 z6 z7:=by rw[<-hBs0];exact hM
  clear hBs0 hM
  obtain⟨hbw,hBs,n0,n1,n2,n3,n4,n5,n6,n7⟩:=hM2
  have hrdW:=Hrd.out.below hbw
  have c1:=hrdW.c1
  have f1:=hrdW.fz 1 (by omega)
  have hBR:Bs≠R:=by omega
  have HW:=hd hrdW
  have HB:=hd (hbw.mono (Nat.le_of_lt lR))
  clear hrdW hbw
  simp only[Hbk.out]
  by_cases he0:e0=0
  ·subst he0
   have Hz:Hid (brkT s.data.toList σ=(0,{σ with pos:=q,inner:= {σ.inner with items:=σ.inner.items++ [itOne (brkSet s.data.toList σ.pos)]}})):=by unfold brkT;rw[Hbk.out];exact hd rfl
   have g:∀k,(W.setCell ⟨R,1,none⟩ (.int .i64 q)).cell? ⟨Bs,k,none⟩=W.cell? ⟨Bs,k,none⟩:=fun k=>World.cell?_setCell_far _ _ _ _ (by show R≠Bs;omega)
   have m0:=(g 0).trans n0
   have m1:=(g 1).trans n1
   have m2:=(g 2).trans n2
   have m3:=(g 3).trans n3
   have m4:=(g 4).trans n4
   have m5:=(g 5).trans n5
   have m6:=(g 6).trans n6
   have m7:=(g 7).trans n7
   clear g
   go_wp2_with fail
   refine(put_rd (HW.out.moved q).1 0 (by omega) hq hi 0 z0 z1 z2 z3 z4 z5 z6 z7 0 0 0 none 0 0 (itOne (brkSet s.data.toList σ.pos)) (ok_one H _ (H8.out (by rw[Hbk.out])))).mono ?_
   rintro e w' ⟨rfl,hrd,hbw⟩
   have HR:=hd hrd
   have HX:=hd (HB.out.trans ((HW.out.moved q).2.trans hbw))
   clear hrd hbw
   go_wp2
   go_ret
   rw[Hz.out]
   exact⟨rfl,HR.out,HX.out⟩
  ·have Hz:Hid (brkT s.data.toList σ=(e0,{σ with pos:=q})):=by unfold brkT;rw[Hbk.out,if_neg he0];exact hd rfl
   have hb0:((e0:Int)==0)=false:=by simp;omega
   clear he0
   go_wp2
   go_ret
   rw[Hz.out]
   exact⟨rfl,(HW.out.moved q).1,HB.out.trans (HW.out.moved q).2⟩
end Go.Proofs.YtldiemjlpnachaaGreatDoor

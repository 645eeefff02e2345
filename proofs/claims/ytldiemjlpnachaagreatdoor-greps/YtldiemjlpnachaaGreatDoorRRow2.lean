import Derived.Test.YtldiemjlpnachaaGreatDoorRGrp2
set_option maxHeartbeats 12800000
set_option maxRecDepth 100000
namespace Go.Proofs.YtldiemjlpnachaaGreatDoor
open Go.RowKit
theorem ivl_mn{l:List UInt8}{i k:Nat}{m n:Int}(h:ivl l i=some (m,n,k)):n= -1\/m<=n:=by
 unfold ivl at h
 split at h
 ·cases h
 ·split at h
  ·cases h;exact .inl rfl
  ·split at h
   ·split at h
    ·cases h
    ·split at h
     ·cases h
     ·split at h
      ·cases h;right;omega
      ·cases h
   ·split at h
    ·cases h;right;omega
    ·cases h
def RW(w wr:World)(R P:Nat)(s:ByteArray)(H:Fins)(vo:Value)(σ:St)(ao:Option Addr)(ln rc j:Nat)(can:Bool):Prop:=
 ∃(bs:List Nat) (its:List It) (τ':RSt) (H':Fins) (vo':Value),ln=its.length/\RI w wr R P s H H' vo vo' (.slice ao ln rc) τ' bs its/\sumSz (its.map (·.2))<=21002*((j-σ.pos:Nat):Int)/\its.length<=j-σ.pos/\Res s.data.toList σ j τ' (KIn s.data.toList j its can)
section
variable {w w2 : World} {R P : Nat} {s : ByteArray} {H H' : Fins} {vo vo' : Value} {τ τ' : RSt} {σ σ' : St} {bs : List Nat} {its : List It} {ao : Option Addr} {ln rc j : Nat} {can : Bool}
theorem RI.post(h:RI w w2 R P s H H' vo vo' (.slice ao ln rc) τ' bs its)(hl:ln=its.length)(hj1:σ.pos<=j)(hj2:j<=s.size)(hsum:sumSz (its.map (·.2))<=21002*((j-σ.pos:Nat):Int))(hlen:its.length<=j-σ.pos)(hres:Res s.data.toList σ j τ' (KRow s.data.toList j its)):
  RowPost w w2 (.returned (.tuple #[.slice ao ln rc,.int .i64 j])) R P s H vo σ:=by
 subst hl
 exact⟨ao,rc,j,bs,its,τ',H',vo',rfl,h.rg,h.kp,h.hg,h.lv,h.rn,hj1,hj2,hsum,hlen,hres⟩
theorem rw_start(h:Rg w R P s H vo τ)(hS:Sim σ τ)(hit:σ.inner.items= [])(hcar:sw s.data.toList σ.pos [94]=false):RW w w R P s H vo σ none 0 0 σ.pos false:=
 ⟨[],[],τ,H,vo,rfl,RI.start h,by simp[sumSz],Nat.zero_le _,.inl ⟨σ,Reach.refl _ _,hS,rfl,rfl,rfl,rfl,by rw[hit];trivial,by rw[hit];rfl,fun _=>hcar⟩⟩
theorem RI.lastOne{n:Nat}(h:RI w w2 R P s H H' vo vo' (.slice ao (n+1) rc) τ' bs its)(hl:n+1=its.length):∃g bs' b0 is it0 d0,ao=some ⟨g,0,none⟩/\bs=bs'++ [b0]/\its=is++ [it0]/\is.length=n/\RItemOk H' d0 b0 it0/\
  w2.cell? ⟨g,n,none⟩=some (.pointer (some ⟨b0,0,none⟩))/\w2.frozen? ⟨g,n,none⟩=false/\g<w2.heap.size/\n+1<=rc/\rc<=maxLen:=by
 rcases list_snoc its with e|⟨is,it0,rfl⟩
 ·rw[e]at hl;simp at hl
 ·obtain⟨bs',b0,rfl,h1,d0,h2⟩:=h.lv.all.unsnoc
  have hn:is.length=n:=by simp at hl;omega
  rcases h.lv.own.2 with⟨e,_⟩|⟨g,cap,cur,e,_,hg,k1,k2,k3,k4⟩
  ·simp at e
  ·have hown:=h.lv.own
   simp only[Value.slice.injEq]at e
   obtain⟨rfl,_,rfl⟩:=e
   have hc:w2.cell? ⟨g,n,none⟩=some (ptr b0):=by
    rw[show(is++ [it0]).length=n+1 by simp;omega]at hown
    refine owns_cell hown n (ptr b0) ?_
    rw[List.map_append,List.map_singleton,List.getElem?_append_right (by rw[List.length_map,h1.length];omega),List.length_map,h1.length,show n-is.length=0 by omega]
    rfl
   exact⟨g,bs',b0,is,it0,d0,rfl,rfl,rfl,hn,h2,hc,by simp[World.frozen?,hg],h.lt rfl,by simp at k1;omega,k2⟩
theorem RI.rep{g n d0 b0:Nat}{is:List It}{it0:It}{m mx:Int}(h:RI w w2 R P s H H' vo vo' (.slice (some ⟨g,0,none⟩) (n+1) rc) τ' (bs++ [b0]) (is++ [it0]))(hn:is.length=n)(hq:RItemOk H' d0 b0 it0)(hm:0<=m/\m<=20)(hx: -1<=mx/\mx<=20)(hmn:mx= -1\/m<=mx)(ht:1<=tmSz m mx it0.2/\tmSz m mx it0.2<=21001):
  ∃H2 vo2,RI w ((w2.alloc (.cells (itC ⟨#[116,105,109,101,115]⟩ 0 (some ⟨b0,0,none⟩) m mx) 102)).setCell ⟨g,n,none⟩ (.pointer (some ⟨w2.heap.size,0,none⟩))) R P s H H2 vo vo2 (.slice (some ⟨g,0,none⟩) (n+1) rc) τ' (bs++ [w2.heap.size]) (is++ [⟨5,tmSz m mx it0.2,.rep m mx it0.3⟩]):=by
 obtain⟨H2,vo2,h1,d,h2⟩:=h.step (times_at h.rg hq hm hx hmn ht)
 subst hn
 exact⟨H2,vo2,h1.last rfl h2⟩
theorem rw_rep{w3:World}{g n d0 b0 k:Nat}{is:List It}{it0:It}{m mx:Int}(h:RI w w2 R P s H H' vo vo' (.slice (some ⟨g,0,none⟩) (n+1) rc) τ' (bs++ [b0]) (is++ [it0]))(hn:is.length=n)(hq:RItemOk H' d0 b0 it0)(hm:0<=m/\m<=20)(hx: -1<=mx/\mx<=20)(hmn:mx= -1\/m<=mx)
  (hA:AtA s.data.toList σ σ' j τ' (is++ [it0]) true)(hj:j<s.size)(hjk:j<k)(hpj:σ.pos<=j)(hst:stepT s.data.toList σ'=(0,{σ' with pos:=k,inner:= {σ'.inner with items:=repL σ'.inner.items m mx}}))
  (hsum:sumSz ((is++ [it0]).map (·.2))<=21002*((j-σ.pos:Nat):Int))(hlen:(is++ [it0]).length<=j-σ.pos)
  (hw:w3=(w2.alloc (.cells (itC ⟨#[116,105,109,101,115]⟩ 0 (some ⟨b0,0,none⟩) m mx) 102)).setCell ⟨g,n,none⟩ (.pointer (some ⟨w2.heap.size,0,none⟩))):
  RW w w3 R P s H vo σ (some ⟨g,0,none⟩) (n+1) rc k true:=by
 subst hw
 have ht:=hA.tm hm hx
 obtain⟨σ2,hA2⟩:=hA.rep (by rw[len_data];exact hj) hjk hst hm hx
 obtain⟨H2,vo2,hI⟩:=h.rep hn hq hm hx hmn ht
 have hpos:1<=it0.2:=hq.bd.1
 rw[sumSz_last]at hsum
 simp only[List.length_append,List.length_singleton]at hlen
 exact⟨_,_,τ',H2,vo2,by simp;omega,hI,by rw[sumSz_last];show sumSz (is.map (·.2))+tmSz m mx it0.2<=_;omega,by simp only[List.length_append,List.length_singleton];omega,hA2.res⟩
theorem rw_item{w3:World}{g cap b d j2:Nat}{it:It}{o:Obj}{τ2:RSt}(h:RI w w2 R P s H H' vo vo' (.slice ao ln rc) τ2 bs its)(hln:ln=its.length)(hb:RItemOk H' d b it)(hA:AtA s.data.toList σ σ' j τ its can)(hr:Res s.data.toList σ' j2 τ2 (KIt σ' it))(h1:it.1≠1)(h2:it.2<=21002*((j2-σ'.pos:Nat):Int))(hj:j<j2)(hpj:σ.pos<=j)
  (hsum:sumSz (its.map (·.2))<=21002*((j-σ.pos:Nat):Int))(hlen:its.length<=j-σ.pos)
  (hgr:(w2.alloc o).grownBy w3 (Value.slice ao ln rc).ownBlock)(hown:w3.ownsRow 0 99 1 (.slice (some ⟨g,0,none⟩) (ln+1) cap) (ln+1) (bs.map ptr++ [ptr b]))(hat:(Value.slice ao ln rc).ownBlock=some g\/g=w2.heap.size+1):
  RW w w3 R P s H vo σ (some ⟨g,0,none⟩) (ln+1) cap j2 (!(it.1==2)):=by
 subst hln
 have hp:=hA.pos
 refine⟨_,_,τ2,H',vo',by simp,by have:=h.append hb hgr hown hat;simpa using this,by rw[sumSz_last];omega,by simp only[List.length_append,List.length_singleton];omega,hA.item hr h1⟩
theorem RI.far{w3:World}{b d:Nat}{it:It}{o:Obj}{is:ByteArray}(h:RI w w2 R P s H H' vo vo' (.slice ao ln rc) τ' bs its)(hb:RItemOk H' d b it)(hgr:(w2.alloc o).grownBy w3 (Value.slice ao ln rc).ownBlock)(hc:w2.cell? ⟨b,0,none⟩=some (.string is)):w3.cell? ⟨b,0,none⟩=some (.string is):=by
 have hlt:b<w2.heap.size:=World.block_lt_of_cell? w2 _ hc
 have hH:H' b≠none:=by
  cases d with
  |zero=>exact hb.elim
  |succ d=>obtain⟨arr,h1,_⟩:=hb;rw[h1];simp
 rw[hgr.cell_far _ (by simp;omega) (fun e=>hH (h.lv.nH b e.symm)),World.cell?_alloc_lt _ _ _ hlt]
 exact hc
theorem rw_caret{w3:World}{g cap:Nat}{o:Obj}(h:Rg w R P s H vo τ)(hS:Sim σ τ)(hit:σ.inner.items= [])(hcar:sw s.data.toList σ.pos [94]=true)
  (hgr:((w.alloc (.cells (itC ⟨#[94]⟩ 0 none 0 0) 102)).alloc o).grownBy w3 none)(hown:w3.ownsRow 0 99 1 (.slice (some ⟨g,0,none⟩) (0+1) cap) (0+1) ([]++ [ptr w.heap.size]))(hat:none=some g\/g=w.heap.size+1+1):
  RW w w3 R P s H vo σ (some ⟨g,0,none⟩) 1 cap (σ.pos+1) false:=by
 have hl:=len_data s
 rw[sw1]at hcar
 simp only[Bool.and_eq_true,decide_eq_true_eq,beq_iff_eq]at hcar
 have hc:ch s.data.toList σ.pos=94:=hcar.2
 have hst:stepT s.data.toList σ=(0,addIt σ itBeg 1):=by
  unfold stepT
  rw[if_neg (by omega),if_neg (by omega),if_neg (by omega),if_pos ⟨hc,hit⟩]
 obtain⟨H2,vo2,hI,d,hb⟩:=(RI.start h).step (alloc_leaf (k:=1) (is:=⟨#[94]⟩) h (itC_size _ _ _ _ _) (itC_0 _ _ _ _ _) (.inr (.inl ⟨rfl,rfl⟩)) (.inr (.inl ⟨rfl,rfl⟩)))
 have hI2:=hI.append hb (g:=g) (cap:=cap) (o:=o) (by exact hgr) (by exact hown) (.inr (by simpa using hat))
 refine⟨_,_,τ,H2,vo2,rfl,hI2,by rw[sumSz_last];simp[sumSz],by simp,.inl ⟨_,Reach.step (by omega) hst (by show σ.pos<σ.pos+1;omega),hS.add _ _,rfl,rfl,rfl,rfl,?_,?_,fun e=>?_⟩⟩
 ·show RelL (σ.inner.items++ [itBeg]) _
  rw[hit]
  exact⟨⟨rfl,rfl⟩,.inl ⟨by simp,rfl⟩,by simp,by simp,trivial⟩
 ·show canB (σ.inner.items++ [itBeg])=false
  rw[canB_snoc];rfl
 ·have e2:σ.inner.items++ [itBeg]= []:=e
  simp at e2
theorem RItemOk.is2{d b:Nat}{it:It}(h:RItemOk H' d b it)(hf:RFin w H')(hne:it.1≠1):∃is,w.cell? ⟨b,0,none⟩=some (.string is)/\(is.toList== [36])=(it.1==2):=by
 cases d with
 |zero=>exact h.elim
 |succ d=>
  obtain⟨arr,h1,h2,_,_,h⟩:=h
  rcases h with⟨is,ha,hk,_⟩|⟨e,ha,_⟩|⟨e,ha,_⟩
  ·refine⟨is,hf.cell h1 ha,?_⟩
   rcases hk with⟨e,rfl⟩|⟨e,rfl⟩|⟨e,rfl⟩|⟨e,rfl⟩
   ·rw[e,ByteArray.toList_eq];decide
   ·exact absurd e hne
   ·rw[e,ByteArray.toList_eq];decide
   ·rw[e,ByteArray.toList_eq];decide
  ·exact⟨_,hf.cell h1 ha,by rw[e,ByteArray.toList_eq];decide⟩
  ·exact⟨_,hf.cell h1 ha,by rw[e,ByteArray.toList_eq];decide⟩
theorem heap_twice(w:World)(a b:Obj):((w.alloc a).alloc b).heap[w.heap.size+1]?=some b:=by
 have:=heap_alloc_last (w.alloc a) b
 rw[show(w.alloc a).heap.size=w.heap.size+1 by simp]at this
 exact this
theorem rstep_star(h:ch s.data.toList σ'.pos=42)(hc:canB σ'.inner.items=true):stepT s.data.toList σ'=(0,{σ' with pos:=σ'.pos+1,inner:= {σ'.inner with items:=repL σ'.inner.items 0 (-1)}}):=by
 unfold stepT
 rw[if_neg (by omega),if_neg (by omega),if_neg (by omega),if_neg (by omega),if_neg (by omega),if_pos ⟨h,hc⟩]
theorem step_brace(h:sw s.data.toList σ'.pos [92,123]=true):stepT s.data.toList σ'=ivT s.data.toList σ':=by
 rw[sw2]at h
 simp only[Bool.and_eq_true,decide_eq_true_eq,beq_iff_eq]at h
 obtain⟨⟨h1,h2⟩,h3⟩:=h
 have h2':ch s.data.toList σ'.pos=92:=h2
 have h3':ch s.data.toList (σ'.pos+1)=123:=h3
 unfold stepT
 rw[if_pos h2']
 unfold escT
 rw[if_neg (by omega),if_neg (by omega),if_neg (by omega),if_pos h3']
theorem ClsH.more{H2:Fins}(h:ClsH H)(hg:HG w H H2):ClsH H2:=by
 obtain⟨c,hc,he⟩:=h
 exact⟨c,hg.1 _ _ hc,he⟩
end
end Go.Proofs.YtldiemjlpnachaaGreatDoor
namespace Go.Proofs.YtldiemjlpnachaaGreatDoor
open Go.RowKit
section
variable {w wr : World} {R P : Nat} {s : ByteArray} {H H' : Fins} {vo vo' : Value} {τ τ' : RSt} {σ σ' : St} {bs : List Nat} {its : List It} {ao : Option Addr} {ln rc j : Nat} {can : Bool}
theorem item_at{f:Nat}(hrow:RowSpec s f)(hI:RI w wr R P s H H' vo vo' (.slice ao ln rc) τ' bs its)(hA:AtA s.data.toList σ σ' j τ' its can)(hC:ClsH H')(hs:s.size<=60)(hp:j<s.size)(hf:s.size<j+2+f)(h41:sw s.data.toList j [92,41]=false)(h123:sw s.data.toList j [92,123]=false)(h42:¬(ch s.data.toList j=42/\can=true))(i:Int)(hi:i=j):
  Calls Tryz.prog 33 #[.pointer (some ⟨R,0,none⟩),.int .i64 i] wr fun r w'=>ItmPost wr w' r R P s H' vo' σ':=by
 subst hi
 have hp':=hA.pos
 rw[<-hp']
 exact item_all hrow hI.rg hA.sim hC hs (by omega) (by omega) (by rw[hp'];exact h41) (by rw[hp'];exact h123) (by rw[hp',hA.can];exact h42) (by rw[hp'];exact hA.car)
theorem RI.own2(hI:RI w wr R P s H H' vo vo' (.slice ao ln rc) τ' bs its)(hl:ln=its.length):wr.ownsRow 0 99 1 (.slice ao ln rc) ln (bs.map ptr):=by
 have:=hI.lv.own
 rw[<-hl]at this
 exact this
theorem star_at(hA:AtA s.data.toList σ σ' j τ' its true)(h42:ch s.data.toList j=42):stepT s.data.toList σ'=(0,{σ' with pos:=j+1,inner:= {σ'.inner with items:=repL σ'.inner.items 0 (-1)}}):=by
 have:=rstep_star (σ':=σ') (by rw[hA.pos];exact h42) hA.can
 rw[hA.pos]at this
 exact this
theorem brace_at{m n:Int}{k:Nat}(hA:AtA s.data.toList σ σ' j τ' its true)(hb:sw s.data.toList j [92,123]=true)(hiv:ivl s.data.toList (j+2)=some (m,n,k)):stepT s.data.toList σ'=(0,{σ' with pos:=k,inner:= {σ'.inner with items:=repL σ'.inner.items m n}}):=by
 rw[step_brace (by rw[hA.pos];exact hb)]
 unfold ivT
 rw[if_neg (by rw[hA.can];decide),hA.pos,hiv]
theorem brace_no(hA:AtA s.data.toList σ σ' j τ' its can)(hb:sw s.data.toList j [92,123]=true)(hiv:can=false\/ivl s.data.toList (j+2)=none):stepT s.data.toList σ'=(7,σ'):=by
 rw[step_brace (by rw[hA.pos];exact hb)]
 unfold ivT
 rw[hA.can,hA.pos]
 rcases hiv with h|h
 ·rw[if_pos h]
 ·rw[h];split<;>rfl
theorem interval_none(s:ByteArray)(j:Nat)(hs:s.size<=60)(hj:j<=100)(hiv:ivl s.data.toList (j+2)=none)(i:Int)(w:World)(hi:i=((j+2:Nat):Int)):Calls Tryz.prog 32 #[.string s,.int .i64 i] w fun e w'=>e= .returned (.tuple #[.int .i64 0,.int .i64 0,.int .i64 (-1)])/\w'=w:=by
 have:=interval_any s i (j+2) w hi hs (by omega)
 rw[hiv]at this
 exact this
theorem interval_some(s:ByteArray)(j:Nat)(hs:s.size<=60)(hj:j<=100){m n:Int}{k:Nat}(hiv:ivl s.data.toList (j+2)=some (m,n,k))(i:Int)(w:World)(hi:i=((j+2:Nat):Int)):Calls Tryz.prog 32 #[.string s,.int .i64 i] w fun e w'=>e= .returned (.tuple #[.int .i64 m,.int .i64 n,.int .i64 k])/\w'=w:=by
 have:=interval_any s i (j+2) w hi hs (by omega)
 rw[hiv]at this
 exact this
end
theorem row_plain{s:ByteArray}{f:Nat}(hrow:RowSpec s f){w:World}{R P:Nat}{H:Fins}{vo:Value}{τ:RSt}{σ:St}(h:Rg w R P s H vo τ)(hS:Sim σ τ)(hC:ClsH H)(hs:s.size<=60)(hp:σ.pos<=s.size)(hit:σ.inner.items= [])(hf:s.size<σ.pos+(f+1))(hcar:sw s.data.toList σ.pos [94]=false):
  Calls Tryz.prog 17 #[.pointer (some ⟨R,0,none⟩),.int .i64 σ.pos] w fun r w'=>RowPost w w' r R P s H vo σ:=by
 have c0:=h.c0
 have Hl:=hd (len_data s)
 have Hh:=hd h
 have Hrow:=hd hrow
 have HC:=hd hC
 have HS:=hd hS
 have Hit:=hd hit
 obtain⟨i0,hi0,hz0,hz1,hz2⟩:=info_parts info_ptr
 clear h hrow hC hS hit
 have Hcar:=hd hcar
 have HW:=hd (rw_start Hh.out HS.out Hit.out hcar)
 clear hcar
 go_enter Tryz.func17,Tryz.ntmps17
 go_wp2_with (go_at_call 31;refine(starts_b s _ _ σ.pos [94] _ _ (by omega) rfl Hcar.out (by omega) (by decide) (by decide) (by omega)).mono ?_;rintro e w' ⟨rfl,rfl⟩)
 clear c0
 go_loopg [1,6,7,8,9,10,11,12] 62 (fun g i v c _ _ _ _ _ wr=>∃(j:Nat) (can:Bool) (ao:Option Addr) (ln rc:Nat),i= .int .i64 j/\v= .slice ao ln rc/\c= .bool can/\σ.pos<=j/\j<=s.size/\s.size<j+g/\Hid (RW w' wr R P s H vo σ ao ln rc j can))
 case atStart=>exact⟨σ.pos,false,none,0,0,by go_num,rfl,rfl,by omega,by omega,by omega,HW⟩
 case round=>
  obtain⟨j,can,ao,ln,rc,rfl,rfl,rfl,hj1,hj2,hjg,HW⟩:=hrel
  obtain⟨bs,its,τ',H',vo',hln,hI,hsum,hlen,hres⟩:=HW.out
  have c0:=hI.rg.c0
  have c13:=hI.rg.ce
  have HI:=hd hI
  have Hln:=hd hln
  have Hsum:=hd hsum
  have Hlen:=hd hlen
  have Hcl:=hd (HC.out.more hI.hg)
  have hl60:ln<=60:=by omega
  have hj0:(0:Int)<=(j:Int):=by omega
  clear hI hln hsum hlen HW
  rcases hres with⟨σ',r1,r2,r3,r4,r5,r6,r7,r8,r9⟩|⟨σ',r1,r2,r3,r4,r5⟩|⟨he,hfl⟩
  ·have HA:Hid (AtA s.data.toList σ σ' j τ' its can):=hd ⟨r1,r2,r3,r4,r5,r6,r7,r8,r9⟩
   have h0:=r2.err
   rw[h0]at c13
   have R3:=hd r3
   clear r1 r2 r3 r4 r5 r6 r7 r8 r9
   by_cases hjs:j<s.size
   ·have hj':(j:Int)<s.size:=by omega
    cases hsw:sw s.data.toList j [92,41]
    ·have Hsw:=hd hsw
     clear hsw
     obtain⟨gq,rfl⟩:∃g,gk=g+1:=⟨gk-1,by omega⟩
     cases hbr:sw s.data.toList j [92,123]
     ·have Hbr:=hd hbr
      clear hbr
      rcases(show(can=true/\ch s.data.toList j=42)\/(can=true/\ch s.data.toList j≠42)\/can=false by cases can<;>simp<;>omega)with⟨rfl,h42⟩|⟨rfl,h42⟩|rfl
      ·obtain⟨n,rfl⟩:∃n,ln=n+1:=by
        obtain⟨is,it0,e⟩:=HA.out.some
        have:=Hln.out
        rw[e]at this
        simp at this
        exact⟨_,this⟩
       obtain⟨g,bs',b0,is,it0,d0,rfl,rfl,rfl,hn,hq,cG,fG,hgl,hr1,hr2⟩:=HI.out.lastOne Hln.out
       have hx2:((s[j].toNat:Int)==42)=true:=by rw[ch_int hjs h42];rfl
       have HF:=hd (fun w3 hw=>rw_rep (w3:=w3) (k:=j+1) (m:=0) (mx:= -1) HI.out hn hq (by omega) (by omega) (by omega) HA.out hjs (by omega) hj1 (star_at HA.out h42) Hsum.out Hlen.out hw)
       have hn0:(0:Int)<=(n:Int):=by omega
       clear h42 hn hq hr1 hr2
       go_wp2_with (first
        |(go_at_call 31;refine(starts_b s _ _ j [92,41] _ _ (by omega) rfl Hsw.out (by omega) (by decide) (by decide) (by omega)).mono ?_;rintro e w' ⟨rfl,rfl⟩)
        |refine wp_b46 ⟨#[116,105,109,101,115]⟩ _ (some ⟨b0,0,none⟩) (-1) rfl rfl rfl ?_
        |refine wp_bx _ ⟨#[116,105,109,101,115]⟩ 0 (some ⟨b0,0,none⟩) 0 (-1) rfl rfl rfl ?_)
       go_roundg gq
       case measure=>omega
       case rel=>exact⟨j+1,true,_,_,_,by go_num,rfl,rfl,by omega,by omega,by omega,hd (HF.out _ (World.setCell_alloc_past _ _ _ _ hgl).symm)⟩
      all_goals
       have Hitem:=hd (fun i hi=>item_at Hrow.out HI.out HA.out Hcl.out hs hjs (by omega) Hsw.out Hbr.out (by first|exact fun e=>h42 e.1|exact fun e=>by cases e.2) i hi)
       first|(have hx2:((s[j].toNat:Int)==42)=false:=by {have:=ch_ne hjs h42;simpa using this};clear h42)|skip
       go_wp2_with (first
        |(go_at_call 31;refine(starts_b s _ _ j [92,41] _ _ (by omega) rfl Hsw.out (by omega) (by decide) (by decide) (by omega)).mono ?_;rintro e w' ⟨rfl,rfl⟩)
        |(go_at_call 31;refine(starts_b s _ _ j [92,123] _ _ (by omega) rfl Hbr.out (by omega) (by decide) (by decide) (by omega)).mono ?_;rintro e w' ⟨rfl,rfl⟩)
        |(go_at_call 33;refine(Hitem.out _ rfl).mono ?_;rintro e w2 ⟨b,j2,it,τ2,rfl,hip,hj3,hj4,hk2,hr2⟩
          obtain⟨H2,vo2,hI2,d,hb2⟩:=HI.out.step hip
          obtain⟨is,his,hq⟩:=hb2.is2 hI2.rg.fin hk2.1
          have Hq:=hd hq
          have HI2:=hd hI2
          have Hb2:=hd hb2
          have Hk2:=hd hk2
          have Hr2:=hd hr2
          have Hown2:=hd (hI2.own2 Hln.out)
          have Hj3:Hid (j<j2):=hd (by have:=HA.out.pos;omega)
          clear hI2 hb2 hk2 hr2 hip hq hj3)
        |(refine wpList_append_lies _ (by rfl) _ _ _ (by rfl) 0 99 i0 _ 1 8 uPtrs hi0 hz0 hz1 hz2 rfl (by omega) (.slice ao ln rc) ln (bs.map ptr) (by rfl) (Hown2.out.alloc _)
           ⟨w2.heap.size,0,none⟩ 1 1 [ptr b] (by rfl) (by rfl) (World.news_of_block (cs:= #[ptr b]) (t:=99) (fr:=(0,0)) (heap_alloc_last _ _)) (by simp[Value.oneCell',ptr])
           (by omega) (by unfold maxLen;omega) (by omega) (by omega) (w2.heap.size+1) (by simp) ?_
          intro g cap w3 hown3 hgrow hat hlt
          have his3:=HI2.out.far Hb2.out hgrow his
          have HW3:=hd (rw_item HI2.out Hln.out Hb2.out HA.out Hr2.out Hk2.out.1 Hk2.out.2 Hj3.out hj1 Hsum.out Hlen.out hgrow hown3 hat)
          clear hown3 hgrow hat hlt))
       go_roundg gq
       case measure=>omega
       case rel=>exact⟨j2,!(it.1==2),_,_,_,rfl,rfl,by rw[Hq.out],by have:=Hj3.out;omega,hj4,by have:=Hj3.out;omega,HW3⟩
     ·have Hbr:=hd hbr
      have hx2:((s[j].toNat:Int)==42)=false:=by
       rw[sw2]at hbr
       simp only[Bool.and_eq_true,decide_eq_true_eq,beq_iff_eq]at hbr
       have e:ch s.data.toList j=92:=hbr.1.2
       have:=ch_ne (k:=42) hjs (by omega)
       simpa using this
      clear hbr
      cases hiv:ivl s.data.toList (j+2)with
      |none=>
       have Hiv:=hd (interval_none s j hs (by omega) hiv)
       have Hno:=hd (brace_no HA.out Hbr.out (.inr hiv))
       clear hiv
       rcases(show can=true\/can=false by cases can<;>simp)with rfl|rfl
       all_goals
        go_wp2_with (first
         |(go_at_call 31;refine(starts_b s _ _ j [92,41] _ _ (by omega) rfl Hsw.out (by omega) (by decide) (by decide) (by omega)).mono ?_;rintro e w' ⟨rfl,rfl⟩)
         |(go_at_call 31;refine(starts_b s _ _ j [92,123] _ _ (by omega) rfl Hbr.out (by omega) (by decide) (by decide) (by omega)).mono ?_;rintro e w' ⟨rfl,rfl⟩)
         |(go_at_call 32;refine(Hiv.out _ _ (by omega)).mono ?_;rintro e w' ⟨rfl,rfl⟩)
         |(go_at_call 18;refine(wrong_any HI.out.rg 7 j _ rfl h0).mono ?_;rintro e w2 ⟨rfl,hr2,hk2⟩;have HF:=hd ((HI.out.wrong hr2 hk2).post Hln.out hj1 hj2 Hsum.out Hlen.out (HA.out.err (by rw[len_data];exact hjs) (by omega) Hno.out rfl rfl));clear hr2 hk2))
        exact bodyPost_ret (v:= .tuple #[.slice ao ln rc,.int .i64 j]) (by simp[results,Tryz.results17,go_sem]) rfl HF.out
      |some mnk=>
       obtain⟨m,n',k⟩:=mnk
       have hbd:=ivl_bd hiv
       have Hle:=hd (ivl_mn hiv)
       rw[len_data]at hbd
       have Hiv:=hd (interval_some s j hs (by omega) hiv)
       have hk0:¬(k:Int)<0:=by omega
       rcases(show can=false\/can=true by cases can<;>simp)with rfl|rfl
       ·have Hno:=hd (brace_no HA.out Hbr.out (.inl rfl))
        clear hiv
        go_wp2_with (first
         |(go_at_call 31;refine(starts_b s _ _ j [92,41] _ _ (by omega) rfl Hsw.out (by omega) (by decide) (by decide) (by omega)).mono ?_;rintro e w' ⟨rfl,rfl⟩)
         |(go_at_call 31;refine(starts_b s _ _ j [92,123] _ _ (by omega) rfl Hbr.out (by omega) (by decide) (by decide) (by omega)).mono ?_;rintro e w' ⟨rfl,rfl⟩)
         |(go_at_call 32;refine(Hiv.out _ _ (by omega)).mono ?_;rintro e w' ⟨rfl,rfl⟩)
         |(go_at_call 18;refine(wrong_any HI.out.rg 7 j _ rfl h0).mono ?_;rintro e w2 ⟨rfl,hr2,hk2⟩;have HF:=hd ((HI.out.wrong hr2 hk2).post Hln.out hj1 hj2 Hsum.out Hlen.out (HA.out.err (by rw[len_data];exact hjs) (by omega) Hno.out rfl rfl));clear hr2 hk2))
        exact bodyPost_ret (v:= .tuple #[.slice ao ln rc,.int .i64 j]) (by simp[results,Tryz.results17,go_sem]) rfl HF.out
       ·have Hst:=hd (brace_at HA.out Hbr.out hiv)
        clear hiv
        obtain⟨n,rfl⟩:∃n,ln=n+1:=by
         obtain⟨is,it0,e⟩:=HA.out.some
         have:=Hln.out
         rw[e]at this
         simp at this
         exact⟨_,this⟩
        obtain⟨g,bs',b0,is,it0,d0,rfl,rfl,rfl,hn,hq,cG,fG,hgl,hr1,hr2⟩:=HI.out.lastOne Hln.out
        have HF:=hd (fun w3 hw=>rw_rep (w3:=w3) (k:=k) (m:=m) (mx:=n') HI.out hn hq (by omega) (by omega) Hle.out HA.out hjs (by omega) hj1 Hst.out Hsum.out Hlen.out hw)
        have hn0:(0:Int)<=(n:Int):=by omega
        clear hn hq hr1 hr2
        go_wp2_with (first
         |(go_at_call 31;refine(starts_b s _ _ j [92,41] _ _ (by omega) rfl Hsw.out (by omega) (by decide) (by decide) (by omega)).mono ?_;rintro e w' ⟨rfl,rfl⟩)
         |(go_at_call 31;refine(starts_b s _ _ j [92,123] _ _ (by omega) rfl Hbr.out (by omega) (by decide) (by decide) (by omega)).mono ?_;rintro e w' ⟨rfl,rfl⟩)
         |(go_at_call 32;refine(Hiv.out _ _ (by omega)).mono ?_;rintro e w' ⟨rfl,rfl⟩)
         |refine wp_b456 ⟨#[116,105,109,101,115]⟩ _ _ _ (some ⟨b0,0,none⟩) m n' rfl rfl rfl rfl rfl ?_
         |refine wp_bx _ ⟨#[116,105,109,101,115]⟩ 0 (some ⟨b0,0,none⟩) m n' rfl rfl rfl ?_)
        go_roundg gq
        case measure=>omega
        case rel=>exact⟨k,true,_,_,_,rfl,rfl,rfl,by omega,by omega,by omega,hd (HF.out _ (World.setCell_alloc_past _ _ _ _ hgl).symm)⟩
    ·have Hsw:=hd hsw
     have HF:=hd (HI.out.post Hln.out hj1 hj2 Hsum.out Hlen.out (HA.out.shut (fun _=>hsw)))
     clear hsw
     go_wp2_with (go_at_call 31;refine(starts_b s _ _ j [92,41] _ _ (by omega) rfl Hsw.out (by omega) (by decide) (by decide) (by omega)).mono ?_;rintro e w' ⟨rfl,rfl⟩)
     exact bodyPost_ret (v:= .tuple #[.slice ao ln rc,.int .i64 j]) (by simp[results,Tryz.results17,go_sem]) rfl HF.out
   ·have HF:=hd (HI.out.post Hln.out hj1 hj2 Hsum.out Hlen.out (HA.out.shut (fun e=>absurd e (by rw[len_data];exact hjs))))
    have hj':¬(j:Int)<s.size:=by omega
    go_wp2
    exact bodyPost_ret (v:= .tuple #[.slice ao ln rc,.int .i64 j]) (by simp[results,Tryz.results17,go_sem]) rfl HF.out
  ·have HF:=hd (HI.out.post Hln.out hj1 hj2 Hsum.out Hlen.out (.inr (.inl ⟨σ',r1,r2,r3,r4,r5⟩)))
   have h0:=r2.err
   rw[h0]at c13
   rw[len_data]at r4
   have hj':¬(j:Int)<s.size:=by omega
   clear r1 r2 r3 r4 r5
   go_wp2
   exact bodyPost_ret (v:= .tuple #[.slice ao ln rc,.int .i64 j]) (by simp[results,Tryz.results17,go_sem]) rfl HF.out
  ·have HF:=hd (HI.out.post Hln.out hj1 hj2 Hsum.out Hlen.out (.inr (.inr ⟨he,hfl⟩)))
   have he2:((τ'.err:Int)==0)=false:=by simp;omega
   clear he hfl
   go_wp2
   exact bodyPost_ret (v:= .tuple #[.slice ao ln rc,.int .i64 j]) (by simp[results,Tryz.results17,go_sem]) rfl HF.out
theorem row_caret{s:ByteArray}{f:Nat}(hrow:RowSpec s f){w:World}{R P:Nat}{H:Fins}{vo:Value}{τ:RSt}{σ:St}(h:Rg w R P s H vo τ)(hS:Sim σ τ)(hC:ClsH H)(hs:s.size<=60)(_hp:σ.pos<=s.size)(hit:σ.inner.items= [])(hf:s.size<σ.pos+(f+1))(hcar:sw s.data.toList σ.pos [94]=true):
  Calls Tryz.prog 17 #[.pointer (some ⟨R,0,none⟩),.int .i64 σ.pos] w fun r w'=>RowPost w w' r R P s H vo σ:=by
 have c0:=h.c0
 have Hl:=hd (len_data s)
 have Hh:=hd h
 have Hrow:=hd hrow
 have HC:=hd hC
 have HS:=hd hS
 have Hit:=hd hit
 obtain⟨i0,hi0,hz0,hz1,hz2⟩:=info_parts info_ptr
 clear h hrow hC hS hit
 have Hcar:=hd hcar
 have hps:σ.pos+1<=s.size:=by
  rw[sw1,len_data]at hcar
  simp at hcar
  omega
 clear hcar
 go_enter Tryz.func17,Tryz.ntmps17
 go_wp2_with (first
  |(go_at_call 31;refine(starts_b s _ _ σ.pos [94] _ _ (by omega) rfl Hcar.out (by omega) (by decide) (by decide) (by omega)).mono ?_;rintro e w' ⟨rfl,rfl⟩)
  |refine wp_b0 ⟨#[94]⟩ rfl rfl ?_
  |refine wp_bx _ ⟨#[94]⟩ 0 none 0 0 rfl rfl rfl ?_
  |(refine wpList_append_lies _ (by rfl) _ _ _ (by rfl) 0 99 i0 _ 1 8 uPtrs hi0 hz0 hz1 hz2 rfl (by omega) (.slice none 0 0) 0 [] (by rfl) (World.ownsRow_nil _ _ _ _)
     ⟨w'.heap.size+1,0,none⟩ 1 1 [ptr w'.heap.size] (by rfl) (by rfl) (World.news_of_block (cs:= #[ptr w'.heap.size]) (t:=99) (fr:=(0,0)) (heap_twice _ _ _)) (by simp[Value.oneCell',ptr])
     (by omega) (by unfold maxLen;omega) (by omega) (by omega) (w'.heap.size+1+1) (by simp) ?_
    intro g cap w1 hown1 hgrow hat hlt
    have HW:=hd (rw_caret Hh.out HS.out Hit.out Hcar.out hgrow hown1 hat)))
 clear hown1 hgrow hat hlt c0
 go_loopg [1,6,7,8,9,10,11,12] 62 (fun g i v c _ _ _ _ _ wr=>∃(j:Nat) (can:Bool) (ao:Option Addr) (ln rc:Nat),i= .int .i64 j/\v= .slice ao ln rc/\c= .bool can/\σ.pos<=j/\j<=s.size/\s.size<j+g/\Hid (RW w' wr R P s H vo σ ao ln rc j can))
 case atStart=>exact⟨σ.pos+1,false,_,_,_,by go_num,rfl,rfl,by omega,by omega,by omega,HW⟩
 case round=>
  obtain⟨j,can,ao,ln,rc,rfl,rfl,rfl,hj1,hj2,hjg,HW⟩:=hrel
  obtain⟨bs,its,τ',H',vo',hln,hI,hsum,hlen,hres⟩:=HW.out
  have c0:=hI.rg.c0
  have c13:=hI.rg.ce
  have HI:=hd hI
  have Hln:=hd hln
  have Hsum:=hd hsum
  have Hlen:=hd hlen
  have Hcl:=hd (HC.out.more hI.hg)
  have hl60:ln<=60:=by omega
  have hj0:(0:Int)<=(j:Int):=by omega
  clear hI hln hsum hlen HW
  rcases hres with⟨σ',r1,r2,r3,r4,r5,r6,r7,r8,r9⟩|⟨σ',r1,r2,r3,r4,r5⟩|⟨he,hfl⟩
  ·have HA:Hid (AtA s.data.toList σ σ' j τ' its can):=hd ⟨r1,r2,r3,r4,r5,r6,r7,r8,r9⟩
   have h0:=r2.err
   rw[h0]at c13
   have R3:=hd r3
   clear r1 r2 r3 r4 r5 r6 r7 r8 r9
   by_cases hjs:j<s.size
   ·have hj':(j:Int)<s.size:=by omega
    cases hsw:sw s.data.toList j [92,41]
    ·have Hsw:=hd hsw
     clear hsw
     obtain⟨gq,rfl⟩:∃g,gk=g+1:=⟨gk-1,by omega⟩
     cases hbr:sw s.data.toList j [92,123]
     ·have Hbr:=hd hbr
      clear hbr
      rcases(show(can=true/\ch s.data.toList j=42)\/(can=true/\ch s.data.toList j≠42)\/can=false by cases can<;>simp<;>omega)with⟨rfl,h42⟩|⟨rfl,h42⟩|rfl
      ·obtain⟨n,rfl⟩:∃n,ln=n+1:=by
        obtain⟨is,it0,e⟩:=HA.out.some
        have:=Hln.out
        rw[e]at this
        simp at this
        exact⟨_,this⟩
       obtain⟨g,bs',b0,is,it0,d0,rfl,rfl,rfl,hn,hq,cG,fG,hgl,hr1,hr2⟩:=HI.out.lastOne Hln.out
       have hx2:((s[j].toNat:Int)==42)=true:=by rw[ch_int hjs h42];rfl
       have HF:=hd (fun w3 hw=>rw_rep (w3:=w3) (k:=j+1) (m:=0) (mx:= -1) HI.out hn hq (by omega) (by omega) (by omega) HA.out hjs (by omega) hj1 (star_at HA.out h42) Hsum.out Hlen.out hw)
       have hn0:(0:Int)<=(n:Int):=by omega
       clear h42 hn hq hr1 hr2
       go_wp2_with (first
        |(go_at_call 31;refine(starts_b s _ _ j [92,41] _ _ (by omega) rfl Hsw.out (by omega) (by decide) (by decide) (by omega)).mono ?_;rintro e w' ⟨rfl,rfl⟩)
        |refine wp_b46 ⟨#[116,105,109,101,115]⟩ _ (some ⟨b0,0,none⟩) (-1) rfl rfl rfl ?_
        |refine wp_bx _ ⟨#[116,105,109,101,115]⟩ 0 (some ⟨b0,0,none⟩) 0 (-1) rfl rfl rfl ?_)
       go_roundg gq
       case measure=>omega
       case rel=>exact⟨j+1,true,_,_,_,by go_num,rfl,rfl,by omega,by omega,by omega,hd (HF.out _ (World.setCell_alloc_past _ _ _ _ hgl).symm)⟩
      all_goals
       have Hitem:=hd (fun i hi=>item_at Hrow.out HI.out HA.out Hcl.out hs hjs (by omega) Hsw.out Hbr.out (by first|exact fun e=>h42 e.1|exact fun e=>by cases e.2) i hi)
       first|(have hx2:((s[j].toNat:Int)==42)=false:=by {have:=ch_ne hjs h42;simpa using this};clear h42)|skip
       go_wp2_with (first
        |(go_at_call 31;refine(starts_b s _ _ j [92,41] _ _ (by omega) rfl Hsw.out (by omega) (by decide) (by decide) (by omega)).mono ?_;rintro e w' ⟨rfl,rfl⟩)
        |(go_at_call 31;refine(starts_b s _ _ j [92,123] _ _ (by omega) rfl Hbr.out (by omega) (by decide) (by decide) (by omega)).mono ?_;rintro e w' ⟨rfl,rfl⟩)
        |(go_at_call 33;refine(Hitem.out _ rfl).mono ?_;rintro e w2 ⟨b,j2,it,τ2,rfl,hip,hj3,hj4,hk2,hr2⟩
          obtain⟨H2,vo2,hI2,d,hb2⟩:=HI.out.step hip
          obtain⟨is,his,hq⟩:=hb2.is2 hI2.rg.fin hk2.1
          have Hq:=hd hq
          have HI2:=hd hI2
          have Hb2:=hd hb2
          have Hk2:=hd hk2
          have Hr2:=hd hr2
          have Hown2:=hd (hI2.own2 Hln.out)
          have Hj3:Hid (j<j2):=hd (by have:=HA.out.pos;omega)
          clear hI2 hb2 hk2 hr2 hip hq hj3)
        |(refine wpList_append_lies _ (by rfl) _ _ _ (by rfl) 0 99 i0 _ 1 8 uPtrs hi0 hz0 hz1 hz2 rfl (by omega) (.slice ao ln rc) ln (bs.map ptr) (by rfl) (Hown2.out.alloc _)
           ⟨w2.heap.size,0,none⟩ 1 1 [ptr b] (by rfl) (by rfl) (World.news_of_block (cs:= #[ptr b]) (t:=99) (fr:=(0,0)) (heap_alloc_last _ _)) (by simp[Value.oneCell',ptr])
           (by omega) (by unfold maxLen;omega) (by omega) (by omega) (w2.heap.size+1) (by simp) ?_
          intro g cap w3 hown3 hgrow hat hlt
          have his3:=HI2.out.far Hb2.out hgrow his
          have HW3:=hd (rw_item HI2.out Hln.out Hb2.out HA.out Hr2.out Hk2.out.1 Hk2.out.2 Hj3.out hj1 Hsum.out Hlen.out hgrow hown3 hat)
          clear hown3 hgrow hat hlt))
       go_roundg gq
       case measure=>omega
       case rel=>exact⟨j2,!(it.1==2),_,_,_,rfl,rfl,by rw[Hq.out],by have:=Hj3.out;omega,hj4,by have:=Hj3.out;omega,HW3⟩
     ·have Hbr:=hd hbr
      have hx2:((s[j].toNat:Int)==42)=false:=by
       rw[sw2]at hbr
       simp only[Bool.and_eq_true,decide_eq_true_eq,beq_iff_eq]at hbr
       have e:ch s.data.toList j=92:=hbr.1.2
       have:=ch_ne (k:=42) hjs (by omega)
       simpa using this
      clear hbr
      cases hiv:ivl s.data.toList (j+2)with
      |none=>
       have Hiv:=hd (interval_none s j hs (by omega) hiv)
       have Hno:=hd (brace_no HA.out Hbr.out (.inr hiv))
       clear hiv
       rcases(show can=true\/can=false by cases can<;>simp)with rfl|rfl
       all_goals
        go_wp2_with (first
         |(go_at_call 31;refine(starts_b s _ _ j [92,41] _ _ (by omega) rfl Hsw.out (by omega) (by decide) (by decide) (by omega)).mono ?_;rintro e w' ⟨rfl,rfl⟩)
         |(go_at_call 31;refine(starts_b s _ _ j [92,123] _ _ (by omega) rfl Hbr.out (by omega) (by decide) (by decide) (by omega)).mono ?_;rintro e w' ⟨rfl,rfl⟩)
         |(go_at_call 32;refine(Hiv.out _ _ (by omega)).mono ?_;rintro e w' ⟨rfl,rfl⟩)
         |(go_at_call 18;refine(wrong_any HI.out.rg 7 j _ rfl h0).mono ?_;rintro e w2 ⟨rfl,hr2,hk2⟩;have HF:=hd ((HI.out.wrong hr2 hk2).post Hln.out hj1 hj2 Hsum.out Hlen.out (HA.out.err (by rw[len_data];exact hjs) (by omega) Hno.out rfl rfl));clear hr2 hk2))
        exact bodyPost_ret (v:= .tuple #[.slice ao ln rc,.int .i64 j]) (by simp[results,Tryz.results17,go_sem]) rfl HF.out
      |some mnk=>
       obtain⟨m,n',k⟩:=mnk
       have hbd:=ivl_bd hiv
       have Hle:=hd (ivl_mn hiv)
       rw[len_data]at hbd
       have Hiv:=hd (interval_some s j hs (by omega) hiv)
       have hk0:¬(k:Int)<0:=by omega
       rcases(show can=false\/can=true by cases can<;>simp)with rfl|rfl
       ·have Hno:=hd (brace_no HA.out Hbr.out (.inl rfl))
        clear hiv
        go_wp2_with (first
         |(go_at_call 31;refine(starts_b s _ _ j [92,41] _ _ (by omega) rfl Hsw.out (by omega) (by decide) (by decide) (by omega)).mono ?_;rintro e w' ⟨rfl,rfl⟩)
         |(go_at_call 31;refine(starts_b s _ _ j [92,123] _ _ (by omega) rfl Hbr.out (by omega) (by decide) (by decide) (by omega)).mono ?_;rintro e w' ⟨rfl,rfl⟩)
         |(go_at_call 32;refine(Hiv.out _ _ (by omega)).mono ?_;rintro e w' ⟨rfl,rfl⟩)
         |(go_at_call 18;refine(wrong_any HI.out.rg 7 j _ rfl h0).mono ?_;rintro e w2 ⟨rfl,hr2,hk2⟩;have HF:=hd ((HI.out.wrong hr2 hk2).post Hln.out hj1 hj2 Hsum.out Hlen.out (HA.out.err (by rw[len_data];exact hjs) (by omega) Hno.out rfl rfl));clear hr2 hk2))
        exact bodyPost_ret (v:= .tuple #[.slice ao ln rc,.int .i64 j]) (by simp[results,Tryz.results17,go_sem]) rfl HF.out
       ·have Hst:=hd (brace_at HA.out Hbr.out hiv)
        clear hiv
        obtain⟨n,rfl⟩:∃n,ln=n+1:=by
         obtain⟨is,it0,e⟩:=HA.out.some
         have:=Hln.out
         rw[e]at this
         simp at this
         exact⟨_,this⟩
        obtain⟨g,bs',b0,is,it0,d0,rfl,rfl,rfl,hn,hq,cG,fG,hgl,hr1,hr2⟩:=HI.out.lastOne Hln.out
        have HF:=hd (fun w3 hw=>rw_rep (w3:=w3) (k:=k) (m:=m) (mx:=n') HI.out hn hq (by omega) (by omega) Hle.out HA.out hjs (by omega) hj1 Hst.out Hsum.out Hlen.out hw)
        have hn0:(0:Int)<=(n:Int):=by omega
        clear hn hq hr1 hr2
        go_wp2_with (first
         |(go_at_call 31;refine(starts_b s _ _ j [92,41] _ _ (by omega) rfl Hsw.out (by omega) (by decide) (by decide) (by omega)).mono ?_;rintro e w' ⟨rfl,rfl⟩)
         |(go_at_call 31;refine(starts_b s _ _ j [92,123] _ _ (by omega) rfl Hbr.out (by omega) (by decide) (by decide) (by omega)).mono ?_;rintro e w' ⟨rfl,rfl⟩)
         |(go_at_call 32;refine(Hiv.out _ _ (by omega)).mono ?_;rintro e w' ⟨rfl,rfl⟩)
         |refine wp_b456 ⟨#[116,105,109,101,115]⟩ _ _ _ (some ⟨b0,0,none⟩) m n' rfl rfl rfl rfl rfl ?_
         |refine wp_bx _ ⟨#[116,105,109,101,115]⟩ 0 (some ⟨b0,0,none⟩) m n' rfl rfl rfl ?_)
        go_roundg gq
        case measure=>omega
        case rel=>exact⟨k,true,_,_,_,rfl,rfl,rfl,by omega,by omega,by omega,hd (HF.out _ (World.setCell_alloc_past _ _ _ _ hgl).symm)⟩
    ·have Hsw:=hd hsw
     have HF:=hd (HI.out.post Hln.out hj1 hj2 Hsum.out Hlen.out (HA.out.shut (fun _=>hsw)))
     clear hsw
     go_wp2_with (go_at_call 31;refine(starts_b s _ _ j [92,41] _ _ (by omega) rfl Hsw.out (by omega) (by decide) (by decide) (by omega)).mono ?_;rintro e w' ⟨rfl,rfl⟩)
     exact bodyPost_ret (v:= .tuple #[.slice ao ln rc,.int .i64 j]) (by simp[results,Tryz.results17,go_sem]) rfl HF.out
   ·have HF:=hd (HI.out.post Hln.out hj1 hj2 Hsum.out Hlen.out (HA.out.shut (fun e=>absurd e (by rw[len_data];exact hjs))))
    have hj':¬(j:Int)<s.size:=by omega
    go_wp2
    exact bodyPost_ret (v:= .tuple #[.slice ao ln rc,.int .i64 j]) (by simp[results,Tryz.results17,go_sem]) rfl HF.out
  ·have HF:=hd (HI.out.post Hln.out hj1 hj2 Hsum.out Hlen.out (.inr (.inl ⟨σ',r1,r2,r3,r4,r5⟩)))
   have h0:=r2.err
   rw[h0]at c13
   rw[len_data]at r4
   have hj':¬(j:Int)<s.size:=by omega
   clear r1 r2 r3 r4 r5
   go_wp2
   exact bodyPost_ret (v:= .tuple #[.slice ao ln rc,.int .i64 j]) (by simp[results,Tryz.results17,go_sem]) rfl HF.out
  ·have HF:=hd (HI.out.post Hln.out hj1 hj2 Hsum.out Hlen.out (.inr (.inr ⟨he,hfl⟩)))
   have he2:((τ'.err:Int)==0)=false:=by simp;omega
   clear he hfl
   go_wp2
   exact bodyPost_ret (v:= .tuple #[.slice ao ln rc,.int .i64 j]) (by simp[results,Tryz.results17,go_sem]) rfl HF.out
theorem row_of{s:ByteArray}{f:Nat}(hrow:RowSpec s f):RowSpec s (f+1):=by
 intro w R P H vo τ σ i h hS hC hs hp hit hf hi
 subst hi
 cases hcar:sw s.data.toList σ.pos [94]
 ·exact row_plain hrow h hS hC hs hp hit hf hcar
 ·exact row_caret hrow h hS hC hs hp hit hf hcar
theorem row_any(s:ByteArray):∀f,RowSpec s f
 |0=>fun w R P H vo τ σ i h hS hC hs hp hit hf hi=>absurd hf (by omega)
 |f+1=>row_of (row_any s f)
end Go.Proofs.YtldiemjlpnachaaGreatDoor

import Derived.Test.YtldiemjlpnachaaGreatDoorNfa
import Derived.Test.YtldiemjlpnachaaGreatDoorOwn
import Derived.Test.YtldiemjlpnachaaGreatDoorRd
import Derived.Deep.LoopGhost
set_option maxHeartbeats 6400000
set_option maxRecDepth 100000
namespace Go.Proofs.YtldiemjlpnachaaGreatDoor
open Go.RowKit
attribute [local go_sem ↓] Go.wp_at_zero Go.wp_at_succ
theorem info_step:(Tryz.prog.info? 95).map (fun i=>(i.zero,i.size,i.bytes))=some (some (.agg #[.int .i64 0,.int .u32 0,.int .u32 0,.int .u32 0,.int .u32 0,.int .u32 0,.int .u32 0,.int .u32 0,.int .u32 0,.int .i64 0,.int .i64 0,.int .i64 0,.int .i64 0,.int .i64 0]),14,80):=by kernel_rfl
def CPut(w w':World)(R base:Nat)(v:Value)(n:Nat)(lv:Int)(xs cs:List Value):Prop:=
 ∃g cap,w'.cell? ⟨R,0,none⟩=some (.slice (some ⟨g,0,none⟩) (n+1) cap)/\w'.cell? ⟨R,3,none⟩=some (.int .i64 lv)/\w'.ownsRow base 95 14 (.slice (some ⟨g,0,none⟩) (n+1) cap) (n+1) (xs++cs)/\
  (v.ownBlock=some g\/w.heap.size<=g)/\g<w'.heap.size/\Ch w w' R v.ownBlock [0,3]
theorem cput_mid{w W0 w1:World}{R base g n cap:Nat}{lv:Int}{v r4:Value}{xs cs:List Value}{o2:Obj}(hR:R<base)(hbase:base<=w.heap.size)(ag:v.ownBlock≠some R)(hch:Ch w W0 R v.ownBlock [0,3])
  (hown1:w1.ownsRow base 95 14 (.slice (some ⟨g,0,none⟩) (n+1) cap) (n+1) (xs++cs))(hgrow:(W0.alloc o2).drew.grownBy w1 v.ownBlock)(hat:v.ownBlock=some g\/g=W0.heap.size+1)(hlt:g<w1.heap.size)
  (h4:w1.cell? ⟨R,0,none⟩=some r4)(h3:w1.cell? ⟨R,3,none⟩=some (.int .i64 lv)):
  CPut w (w1.setCell ⟨R,0,none⟩ (.slice (some ⟨g,0,none⟩) (n+1) cap)) R base v n lv xs cs:=by
 have hg:g≠R:=by
  have:=(owns_cells hown1).choose_spec.1
  omega
 have hat':v.ownBlock=some g\/w.heap.size<=g:=by
  rcases hat with h|h
  ·exact .inl h
  ·right;have:=hch.size;omega
 exact⟨g,cap,World.cell?_setCell_same _ _ _ h4,by rw[World.cell?_setCell_other _ _ _ _ (by simp)];exact h3,ownsRow_setCell_other hown1 (by simp[Value.ownBlock];exact hg) _,hat',by simp[World.setCell];exact hlt,((hch.alloc (by omega) o2).drew.grown hgrow (by omega) ag).put 0 (by simp) _⟩
theorem cput_any(R:Nat)(ao:Option Addr)(n cp base dd lv:Nat)(xs:List Value)(w:World)(k a0 a1 a2 a3 a4 a5 a6 a7 sl nx ot:Int)
    (h4:w.cell? ⟨R,0,none⟩=some (.slice ao n cp))(f4:w.frozen? ⟨R,0,none⟩=false)(h3:w.cell? ⟨R,3,none⟩=some (.int .i64 lv))(f3:w.frozen? ⟨R,3,none⟩=false)(h5:w.cell? ⟨R,5,none⟩=some (.int .i64 dd))
    (hown:w.ownsRow base 95 14 (.slice ao n cp) n xs)(hbase:base<=w.heap.size)(hn:n<=1000)(hR:R<base)(hdd:dd<=300)(hlv:lv<=1000000):
    Calls Tryz.prog 25 #[.pointer (some ⟨R,0,none⟩),.agg #[.int .i64 k,.int .u32 a0,.int .u32 a1,.int .u32 a2,.int .u32 a3,.int .u32 a4,.int .u32 a5,.int .u32 a6,.int .u32 a7,.int .i64 sl,.int .i64 nx,.int .i64 ot,.int .i64 0,.int .i64 0]] w fun e w'=>e= .returned (.int .i64 n)/\CPut w w' R base (.slice ao n cp) n ((lv:Int)+dd+1) xs [Value.int .i64 k,.int .u32 a0,.int .u32 a1,.int .u32 a2,.int .u32 a3,.int .u32 a4,.int .u32 a5,.int .u32 a6,.int .u32 a7,.int .i64 sl,.int .i64 nx,.int .i64 ot,.int .i64 dd,.int .i64 lv]:=by
  obtain⟨i0,hi0,hz0,hz1,hz2⟩:=info_parts info_step
  have lR:=World.block_lt_of_cell? w _ h4
  have ag:(Value.slice ao n cp).ownBlock≠some R:=by
    intro e
    have:=(hown.lt R e).1
    omega
  go_enter Tryz.func25,Tryz.ntmps25
  go_wp2_with fail
  go_region
  go_wp2_with fail
  have nz:(w.setCell ⟨R,3,none⟩ (.int .i64 ((lv:Int)+((dd:Int)+1)))).heap.size=w.heap.size:=by simp[World.setCell]
  generalize hW0:((w.setCell ⟨R,3,none⟩ (.int .i64 ((lv:Int)+((dd:Int)+1)))).alloc (.cells #[.int .i64 k,.int .u32 a0,.int .u32 a1,.int .u32 a2,.int .u32 a3,.int .u32 a4,.int .u32 a5,.int .u32 a6,.int .u32 a7,.int .i64 sl,.int .i64 nx,.int .i64 ot,.int .i64 dd,.int .i64 lv] 95)).drew=W0
  have e0:W0.cell? ⟨w.heap.size,0,none⟩=some (.int .i64 k):=by subst hW0;exact World.cell?_alloc_at _ _ _ _ nz.symm
  have e1:W0.cell? ⟨w.heap.size,1,none⟩=some (.int .u32 a0):=by subst hW0;exact World.cell?_alloc_at _ _ _ _ nz.symm
  have e2:W0.cell? ⟨w.heap.size,2,none⟩=some (.int .u32 a1):=by subst hW0;exact World.cell?_alloc_at _ _ _ _ nz.symm
  have e3:W0.cell? ⟨w.heap.size,3,none⟩=some (.int .u32 a2):=by subst hW0;exact World.cell?_alloc_at _ _ _ _ nz.symm
  have e4:W0.cell? ⟨w.heap.size,4,none⟩=some (.int .u32 a3):=by subst hW0;exact World.cell?_alloc_at _ _ _ _ nz.symm
  have e5:W0.cell? ⟨w.heap.size,5,none⟩=some (.int .u32 a4):=by subst hW0;exact World.cell?_alloc_at _ _ _ _ nz.symm
  have e6:W0.cell? ⟨w.heap.size,6,none⟩=some (.int .u32 a5):=by subst hW0;exact World.cell?_alloc_at _ _ _ _ nz.symm
  have e7:W0.cell? ⟨w.heap.size,7,none⟩=some (.int .u32 a6):=by subst hW0;exact World.cell?_alloc_at _ _ _ _ nz.symm
  have e8:W0.cell? ⟨w.heap.size,8,none⟩=some (.int .u32 a7):=by subst hW0;exact World.cell?_alloc_at _ _ _ _ nz.symm
  have e9:W0.cell? ⟨w.heap.size,9,none⟩=some (.int .i64 sl):=by subst hW0;exact World.cell?_alloc_at _ _ _ _ nz.symm
  have e10:W0.cell? ⟨w.heap.size,10,none⟩=some (.int .i64 nx):=by subst hW0;exact World.cell?_alloc_at _ _ _ _ nz.symm
  have e11:W0.cell? ⟨w.heap.size,11,none⟩=some (.int .i64 ot):=by subst hW0;exact World.cell?_alloc_at _ _ _ _ nz.symm
  have e12:W0.cell? ⟨w.heap.size,12,none⟩=some (.int .i64 dd):=by subst hW0;exact World.cell?_alloc_at _ _ _ _ nz.symm
  have e13:W0.cell? ⟨w.heap.size,13,none⟩=some (.int .i64 lv):=by subst hW0;exact World.cell?_alloc_at _ _ _ _ nz.symm
  have c0:W0.cell? ⟨R,0,none⟩=some (.slice ao n cp):=by subst hW0;exact(World.cell?_alloc_lt _ _ _ (by rw[nz];exact lR)).trans ((World.cell?_setCell_other _ _ _ _ (by simp)).trans h4)
  have c3:W0.cell? ⟨R,3,none⟩=some (.int .i64 ((lv:Int)+((dd:Int)+1))):=by subst hW0;exact(World.cell?_alloc_lt _ _ _ (by rw[nz];exact lR)).trans (World.cell?_setCell_same _ _ _ h3)
  have k0:W0.frozen? ⟨R,0,none⟩=false:=by subst hW0;exact(World.frozen?_alloc_old _ _ _ (by rw[nz];show R≠_;omega)).trans ((World.frozen?_setCell _ _ _ _).trans f4)
  have hch0:Ch w W0 R (Value.slice ao n cp).ownBlock [0,3]:=by subst hW0;exact(((Ch.refl w R (Value.slice ao n cp).ownBlock [0,3]).put 3 (by simp) _).alloc (by omega) _).drew
  have hown0:W0.ownsRow base 95 14 (.slice ao n cp) n xs:=by subst hW0;exact((ownsRow_setCell_other hown (by simpa using ag) _).alloc _).drew
  have hsz0:W0.heap.size=w.heap.size+1:=by subst hW0;show((w.setCell _ _).alloc _).heap.size=_;simp[World.setCell]
  have agT:(Value.slice ao n cp).ownBlock≠some w.heap.size:=by
    intro e
    have:=(hown.lt _ e).2
    omega
  clear h3 h4 h5 f3 f4 hown nz
  clear hW0
  generalize hT:w.heap.size=T at*
  have hbase':base<=W0.heap.size:=by omega
  have lR0:R<W0.heap.size:=by omega
  have Hb:=hd hbase
  have Hs:=hd hsz0
  have HT:=hd hT
  have agB:some W0.heap.size≠(Value.slice ao n cp).ownBlock:=by
    intro e
    have:=(hown0.lt _ e.symm).2
    omega
  have hn0:(0:Int)<=(n:Int):=Int.natCast_nonneg _
  have hn1:(n:Int)<(n:Int)+1:=by omega
  have hTR:T≠R:=by omega
  clear hsz0 hbase hT
  go_region_law
    ((refine step_append_lies _ (by rfl) _ _ _ (by rfl) base 95 i0 _ 14 80 Tryz.underlying53 hi0 hz0 hz1 hz2 rfl (by omega) (.slice ao n cp) n xs (by rfl) ((hown0.alloc _).drew)
        ⟨W0.heap.size,0,none⟩ 1 1 [.int .i64 k,.int .u32 a0,.int .u32 a1,.int .u32 a2,.int .u32 a3,.int .u32 a4,.int .u32 a5,.int .u32 a6,.int .u32 a7,.int .i64 sl,.int .i64 nx,.int .i64 ot,.int .i64 dd,.int .i64 lv] (by rfl) (by rfl) (World.news_of_block (cs:= #[.int .i64 k,.int .u32 a0,.int .u32 a1,.int .u32 a2,.int .u32 a3,.int .u32 a4,.int .u32 a5,.int .u32 a6,.int .u32 a7,.int .i64 sl,.int .i64 nx,.int .i64 ot,.int .i64 dd,.int .i64 lv]) (t:=95) (fr:=(0,0)) (heap_alloc_new W0 _)) (by simp[Value.oneCell'])
        (by omega) (by unfold maxLen;omega) (by omega) (by simp;omega) (W0.heap.size+1) (by simp) ?_;intro g cap w1 hown1 hgrow hat hlt;have r4:w1.cell? ⟨R,0,none⟩=some (.slice ao n cp):=(hgrow.cell_far _ (by simp;omega) (Ne.symm ag)).trans (by go_keep);have r3:w1.cell? ⟨R,3,none⟩=some (.int .i64 ((lv:Int)+((dd:Int)+1))):=(hgrow.cell_far _ (by simp;omega) (Ne.symm ag)).trans (by go_keep);have rf4:w1.frozen? ⟨R,0,none⟩=false:=(hgrow.frozen_far _ (by simp;omega) (Ne.symm ag)).trans ((World.frozen?_alloc_old _ _ _ (by show R≠_;omega)).trans k0);have gB:g≠W0.heap.size:=(by rintro rfl;rcases hat with hat|hat;exact agB hat.symm;omega);have gR:g≠R:=(by rintro rfl;rcases hat with hat|hat;exact ag hat;omega)))
  all_goals
    have hM:=cput_mid (w:=w) (cs:= [Value.int .i64 k,.int .u32 a0,.int .u32 a1,.int .u32 a2,.int .u32 a3,.int .u32 a4,.int .u32 a5,.int .u32 a6,.int .u32 a7,.int .i64 sl,.int .i64 nx,.int .i64 ot,.int .i64 dd,.int .i64 lv]) hR (by rw[HT.out];exact Hb.out) ag hch0 hown1 hgrow hat hlt r4 r3
    generalize w1.setCell ⟨R,0,none⟩ (.slice (some ⟨g,0,none⟩) (n+1) cap)=W at hM ⊢
    clear hown1 hgrow hat hlt r4 r3 rf4 gB gR
    have HM:=hd hM
    clear hM
    go_wp2
    go_ret
    refine⟨rfl,?_⟩
    have:=HM.out
    rw[<-Int.add_assoc]at this
    exact this
end Go.Proofs.YtldiemjlpnachaaGreatDoor
namespace Go.Proofs.YtldiemjlpnachaaGreatDoor
open Go.RowKit
def levs(ds:List Nat):Nat:=(ds.map (· +1)).sum
theorem levs_snoc(ds:List Nat)(d:Nat):levs (ds++ [d])=levs ds+d+1:=by simp[levs];omega
theorem levs_le:∀(ds:List Nat) (m:Nat),(∀d∈ds,d<=m)->levs ds<=ds.length*(m+1)
 | [],m,_=>by simp[levs]
 |d::r,m,h=>by
  have h1:=levs_le r m (fun x hx=>h x (by simp[hx]))
  have h2:=h d (by simp)
  have e:levs (d::r)=(d+1)+levs r:=by simp[levs]
  rw[e,List.length_cons,Nat.add_mul,Nat.one_mul]
  omega
def stepCells(k:Int)(a:Nat->Int)(s n o:Int)(d fi:Nat):List Value:=
 [.int .i64 k,.int .u32 (a 0),.int .u32 (a 1),.int .u32 (a 2),.int .u32 (a 3),.int .u32 (a 4),.int .u32 (a 5),.int .u32 (a 6),.int .u32 (a 7),.int .i64 s,.int .i64 n,.int .i64 o,.int .i64 d,.int .i64 fi]
def SdOk(c:List Value)(fi:Nat):Sd->Prop
 |(.done,d)=>c=stepCells 0 (fun _=>0) 0 0 0 d fi
 |(.one f n,d)=>∃a,c=stepCells 1 a 0 n 0 d fi/\∀i,i<8->Word (a i) f i
 |(.beg n,d)=>c=stepCells 2 (fun _=>0) 0 n 0 d fi
 |(.fin n,d)=>c=stepCells 3 (fun _=>0) 0 n 0 d fi
 |(.fork n o,d)=>c=stepCells 4 (fun _=>0) 0 n o d fi
 |(.opn s n,d)=>c=stepCells 5 (fun _=>0) s n 0 d fi
 |(.shut s n,d)=>c=stepCells 6 (fun _=>0) s n 0 d fi
 |(.bck s n,d)=>c=stepCells 7 (fun _=>0) s n 0 d fi
 |(.gain n,d)=>c=stepCells 8 (fun _=>0) 0 n 0 d fi
theorem SdOk.len{c:List Value}{fi:Nat}{st:Sd}(h:SdOk c fi st):c.length=14:=by
 obtain⟨k,d⟩:=st
 cases k with
 |one f n=>obtain⟨a,h,_⟩:=h;rw[h];rfl
 |_=>rw[show c=_ from h];rfl
def SdsOk(css:List (List Value))(cs:List Sd):Prop:=css.length=cs.length/\∀(i:Nat) c st,css[i]?=some c->cs[i]?=some st->SdOk c (levs ((cs.map Prod.snd).take i)) st
theorem SdsOk.nil:SdsOk [] []:=⟨rfl,fun i c st h=>by simp at h⟩
theorem SdsOk.snoc{css:List (List Value)}{cs:List Sd}{c:List Value}{st:Sd}(h:SdsOk css cs)(hc:SdOk c (levs (cs.map Prod.snd)) st):SdsOk (css++ [c]) (cs++ [st]):=by
 refine⟨by simp[h.1],fun i c' st' h1 h2=>?_⟩
 rcases Nat.lt_or_ge i css.length with hi|hi
 ·rw[List.getElem?_append_left hi]at h1
  rw[List.getElem?_append_left (by rw[<-h.1];exact hi)]at h2
  rw[List.map_append,List.take_append_of_le_length (by rw[List.length_map,<-h.1];omega)]
  exact h.2 i c' st' h1 h2
 ·rw[List.getElem?_append_right hi]at h1
  rw[List.getElem?_append_right (by rw[<-h.1];exact hi),<-h.1]at h2
  rcases Nat.eq_zero_or_pos (i-css.length)with h0|h0
  ·rw[h0]at h1 h2
   simp at h1 h2
   rw[<-h1,<-h2]
   have e:i=(cs.map Prod.snd).length:=by rw[List.length_map,<-h.1];omega
   rw[List.map_append,List.take_append_of_le_length (by omega),e,List.take_length]
   exact hc
  ·rw[List.getElem?_eq_none (by simp;omega)]at h1
   cases h1
theorem SdsOk.lens{css:List (List Value)}{cs:List Sd}(h:SdsOk css cs):∀c∈css,c.length=14:=by
 intro c hc
 obtain⟨i,hi,rfl⟩:=List.getElem_of_mem hc
 exact(h.2 i css[i] (cs[i]'(by rw[<-h.1];exact hi)) (List.getElem?_eq_getElem hi) (List.getElem?_eq_getElem _)).len
theorem map_set_same{cs:List Sd}{i d:Nat}{k:Sk}(hd:∀x,cs[i]?=some x->x.2=d):(cs.set i (k,d)).map Prod.snd=cs.map Prod.snd:=by
 apply List.ext_getElem?
 intro j
 rw[List.getElem?_map,List.getElem?_map]
 by_cases e:i=j
 ·subst e
  rcases Nat.lt_or_ge i cs.length with hi|hi
  ·rw[List.getElem?_set_self hi,List.getElem?_eq_getElem hi]
   simp[hd cs[i] (List.getElem?_eq_getElem hi)]
  ·rw[List.getElem?_eq_none (by simpa using hi),List.getElem?_eq_none hi]
 ·rw[List.getElem?_set_ne e]
theorem SdsOk.set{css:List (List Value)}{cs:List Sd}{i d:Nat}{c:List Value}{k:Sk}(h:SdsOk css cs)(hd:∀x,cs[i]?=some x->x.2=d)(hc:SdOk c (levs ((cs.map Prod.snd).take i)) (k,d)):SdsOk (css.set i c) (cs.set i (k,d)):=by
 refine⟨by simp[h.1],fun j c' st' h1 h2=>?_⟩
 rw[map_set_same hd]
 by_cases e:i=j
 ·subst e
  have hi:i<css.length:=by have:=(List.getElem?_eq_some_iff.1 h1).1;simpa using this
  rw[List.getElem?_set_self hi]at h1
  rw[List.getElem?_set_self (by rw[<-h.1];exact hi)]at h2
  cases h1;cases h2
  exact hc
 ·rw[List.getElem?_set_ne e]at h1 h2
  exact h.2 j c' st' h1 h2
theorem flat_len{α:Type}(m:Nat):∀(css:List (List α)),(∀c∈css,c.length=m)->css.flatten.length=css.length*m
 | [],_=>by simp
 |c::r,h=>by
  rw[List.flatten_cons,List.length_append,flat_len m r (fun x hx=>h x (by simp[hx])),h c (by simp),List.length_cons,Nat.add_mul,Nat.one_mul,Nat.add_comm]
theorem flat_get{α:Type}(m:Nat):∀(css:List (List α)) (i j:Nat) (c:List α),(∀c∈css,c.length=m)->css[i]?=some c->j<m->css.flatten[i*m+j]?=c[j]?
 | [],i,j,c,_,h,_=>by simp at h
 |x::r,0,j,c,hl,h,hj=>by
  simp at h
  subst h
  rw[Nat.zero_mul,Nat.zero_add,List.flatten_cons,List.getElem?_append_left (by rw[hl x (by simp)];exact hj)]
 |x::r,i+1,j,c,hl,h,hj=>by
  have hx:=hl x (by simp)
  rw[List.flatten_cons,List.getElem?_append_right (by rw[hx,Nat.add_mul];omega),hx,show(i+1)*m+j-m=i*m+j by rw[Nat.add_mul];omega]
  exact flat_get m r i j c (fun y hy=>hl y (by simp[hy])) (by simpa using h) hj
def RefsAt(w:World)(C:Nat)(vr:Value)(rf:List Nat):Prop:=∃ao cp,vr= .slice ao rf.length cp/\∀i (h:i<rf.length),∃g,ao=some ⟨g,0,none⟩/\g<C/\w.cell? ⟨g,i,none⟩=some (.int .i64 rf[i])
theorem RefsAt.below{w w':World}{C:Nat}{vr:Value}{rf:List Nat}(h:RefsAt w C vr rf)(hb:Below C w w'):RefsAt w' C vr rf:=by
 obtain⟨ao,cp,e,h⟩:=h
 exact⟨ao,cp,e,fun i hi=>by obtain⟨g,h1,h2,h3⟩:=h i hi;exact⟨g,h1,h2,(hb.cell (by exact h2)).trans h3⟩⟩
structure CodeAt(w:World)(base C:Nat)(rf:List Nat)(vr:Value)(d:Nat)(cs:List Sd):Prop where
 hC:C<base
 hb:base<=w.heap.size
 fz:∀i,i<6->w.frozen? ⟨C,i,none⟩=false
 c1:∃u,w.cell? ⟨C,1,none⟩=some u
 c2:w.cell? ⟨C,2,none⟩=some (.int .i64 rf.length)
 c3:w.cell? ⟨C,3,none⟩=some (.int .i64 (levs (cs.map Prod.snd)))
 c4:w.cell? ⟨C,4,none⟩=some vr
 c5:w.cell? ⟨C,5,none⟩=some (.int .i64 d)
 rf:RefsAt w C vr rf
 dm:d<=300
 dl:∀x∈cs,x.2<=300
 rows:∃v css,w.cell? ⟨C,0,none⟩=some v/\w.ownsRow base 95 14 v cs.length css.flatten/\SdsOk css cs
theorem CodeAt.lev{w:World}{base C d:Nat}{rf:List Nat}{vr:Value}{cs:List Sd}(h:CodeAt w base C rf vr d cs)(hn:cs.length<=1000):levs (cs.map Prod.snd)<=301000:=by
 have:=levs_le (cs.map Prod.snd) 300 (fun x hx=>by obtain⟨y,hy,rfl⟩:=List.mem_map.1 hx;exact h.dl y hy)
 rw[List.length_map]at this
 omega
theorem put_c{w:World}{base C d:Nat}{rf:List Nat}{vr:Value}{cs:List Sd}(h:CodeAt w base C rf vr d cs)(hn:cs.length<=1000)(k a0 a1 a2 a3 a4 a5 a6 a7 sl nx ot:Int)(st:Sk)
  (hok:∀dd fi:Nat,SdOk [.int .i64 k,.int .u32 a0,.int .u32 a1,.int .u32 a2,.int .u32 a3,.int .u32 a4,.int .u32 a5,.int .u32 a6,.int .u32 a7,.int .i64 sl,.int .i64 nx,.int .i64 ot,.int .i64 dd,.int .i64 fi] fi (st,dd)):
  Calls Tryz.prog 25 #[.pointer (some ⟨C,0,none⟩),.agg #[.int .i64 k,.int .u32 a0,.int .u32 a1,.int .u32 a2,.int .u32 a3,.int .u32 a4,.int .u32 a5,.int .u32 a6,.int .u32 a7,.int .i64 sl,.int .i64 nx,.int .i64 ot,.int .i64 0,.int .i64 0]] w
   fun e w'=>e= .returned (.int .i64 cs.length)/\CodeAt w' base C rf vr d (cs++ [(st,d)])/\Below C w w':=by
 obtain⟨v,css,h4,hown,hcs⟩:=h.rows
 obtain⟨ao,cp,rfl⟩:=owns_shape hown
 have hC:=h.hC
 have hb:=h.hb
 have hl:=h.lev hn
 refine(cput_any C ao cs.length cp base d (levs (cs.map Prod.snd)) css.flatten w k a0 a1 a2 a3 a4 a5 a6 a7 sl nx ot h4 (h.fz 0 (by omega)) h.c3 (h.fz 3 (by omega)) h.c5 hown h.hb hn h.hC h.dm (by omega)).mono ?_
 rintro e w' ⟨rfl,g,cap,e4,e3,ho,hat,hlt,hch⟩
 have hbl:Below C w w':=hch.below (by omega) (fun k hk=>by have:=(hown.lt k hk).1;omega)
 refine⟨rfl,⟨hC,Nat.le_trans hb hch.size,fun i hi=>(hch.frozen i).trans (h.fz i hi),?_,(hch.cell 2 (by simp)).trans h.c2,?_,(hch.cell 4 (by simp)).trans h.c4,(hch.cell 5 (by simp)).trans h.c5,h.rf.below hbl,h.dm,?_,?_⟩,hbl⟩
 ·obtain⟨u,hu⟩:=h.c1
  exact⟨u,(hch.cell 1 (by simp)).trans hu⟩
 ·rw[e3,List.map_append,List.map_singleton,levs_snoc]
  simp
 ·intro x hx
  rcases List.mem_append.1 hx with hx|hx
  ·exact h.dl x hx
  ·simp at hx;subst hx;exact h.dm
 ·refine⟨_,css++ [_],e4,?_,hcs.snoc (hok d _)⟩
  simp only[List.length_append,List.length_singleton,List.flatten_append,List.flatten_cons,List.flatten_nil,List.append_nil]
  exact ho
def slotV(rf:List Nat)(n:Nat):Int:=if n∈rf then(rf.idxOf n:Int)else-1
theorem idxOf_le:∀(rf:List Nat) (n k:Nat) (hk:k<rf.length),rf[k]=n->rf.idxOf n<=k
 | [],_,k,hk,_=>by simp at hk
 |x::r,n,0,_,h=>by
  simp at h
  simp[h]
 |x::r,n,k+1,hk,h=>by
  have:=idxOf_le r n k (by simpa using hk) (by simpa using h)
  rw[List.idxOf_cons]
  cases x==n<;>simp
  omega
theorem slotV_at{rf:List Nat}{n k:Nat}(hk:k<rf.length)(he:rf[k]=n)(hno:∀j,j<k->rf[j]?≠some n):slotV rf n=k:=by
 have hm:n∈rf:=by rw[<-he];exact List.getElem_mem hk
 unfold slotV
 rw[if_pos hm]
 congr 1
 have h1:rf.idxOf n<rf.length:=List.idxOf_lt_length_of_mem hm
 rcases Nat.lt_trichotomy (rf.idxOf n) k with h|h|h
 ·exact absurd (by rw[List.getElem?_eq_getElem h1,List.getElem_idxOf h1]) (hno _ h)
 ·exact h
 ·have:=idxOf_le rf n k hk he
  omega
theorem slotV_no{rf:List Nat}{n:Nat}(hno:∀j,j<rf.length->rf[j]?≠some n):slotV rf n= -1:=by
 unfold slotV
 rw[if_neg (fun hm=>?_)]
 obtain⟨j,hj,e⟩:=List.getElem_of_mem hm
 exact hno j hj (by rw[List.getElem?_eq_getElem hj,e])
theorem slot_any{w:World}{C n:Nat}{rf:List Nat}{vr:Value}(h4:w.cell? ⟨C,4,none⟩=some vr)(hr:RefsAt w C vr rf)(hl:rf.length<=2)(sv:Int)(hsv:slotV rf n=sv):
  Calls Tryz.prog 67 #[.pointer (some ⟨C,0,none⟩),.int .i64 n] w fun e w'=>e= .returned (.int .i64 sv)/\w'=w:=by
 obtain⟨ao,cp,rfl,hc⟩:=hr
 have Hc:=hd hc
 have Hsv:=hd hsv
 clear hc hsv
 go_enter Tryz.func67,Tryz.ntmps67
 go_wp2
 go_loop [5,6,12] (fun _ _ i=>∃k:Nat,i= .int .i64 k/\k<=rf.length/\Hid (∀j,j<k->rf[j]?≠some n)) (fun _ _ i=>rf.length-(intOf i).toNat)
 case atStart=>exact⟨0,rfl,Nat.zero_le _,hd (fun j hj=>by omega)⟩
 case round=>
  obtain⟨k,rfl,hk,Hno⟩:=hrel
  by_cases hlt:k<rf.length
  ·obtain⟨g,rfl,hg,hc⟩:=Hc.out k hlt
   have hk1:(k:Int)<(rf.length:Int):=by omega
   by_cases hn:rf[k]=n
   ·have HB:Hid (sv=k):=hd (Hsv.out.symm.trans (slotV_at hlt hn Hno.out))
    rw[hn]at hc
    go_wp2
    go_ret
    rw[HB.out]
    exact⟨rfl,rfl⟩
   ·have hne:(((rf[k]:Nat):Int)==(n:Int))=false:=by simp;omega
    have Hnn:Hid (rf[k]?≠some n):=hd (by rw[List.getElem?_eq_getElem hlt];simpa using hn)
    clear hn
    generalize ((rf[k]:Nat):Int)=y at*
    go_wp2
    go_round
    case rel=>exact⟨k+1,by go_num,by omega,hd (fun j hj=>by
     rcases Nat.lt_or_ge j k with h|h
     ·exact Hno.out j h
     ·obtain rfl:j=k:=by omega
      exact Hnn.out)⟩
    case measure=>simp[intOf];omega
  ·obtain rfl:k=rf.length:=by omega
   have HB:Hid (sv= -1):=hd (Hsv.out.symm.trans (slotV_no Hno.out))
   go_wp2
   go_ret
   rw[HB.out]
   exact⟨rfl,rfl⟩
theorem ItemOk.star{H:Fins}:∀ {dp:Nat} {cs:List Value} {it:It},ItemOk H dp cs it->∃a num least most ra rn rc,cs=cellsOf it.1 a num least most ra rn rc/\0<=it.1/\it.1<=5/\starT it.3=decide (it.1=5/\least=0/\most= -1)
 |0,_,_,h=>h.elim
 |d+1,_,⟨kd,sz,tr⟩,⟨a,num,least,most,ra,rn,rc,e,k0,k1,_,_,hc⟩=>by
  refine⟨a,num,least,most,ra,rn,rc,e,k0,k1,?_⟩
  simp only at*
  rcases hc with⟨rfl,its,_,_,n,_,rfl⟩|⟨rfl,_,_,_,_,x,_,_,rfl,_⟩|⟨h4,h5,_,hp⟩
  ·simp[starT]
  ·simp[starT]
  ·rcases hp with⟨rfl,f,rfl,_⟩|⟨rfl,rfl⟩|⟨rfl,rfl⟩|⟨rfl,n,_,rfl⟩<;>simp[starT]
theorem isStar_any(w:World)(g o:Nat)(k least most:Int)(h0:w.cell? ⟨g,o,none⟩=some (.int .i64 k))(h10:w.cell? ⟨g,o+10,none⟩=some (.int .i64 least))(h11:w.cell? ⟨g,o+11,none⟩=some (.int .i64 most))(b:Bool)(hb:decide (k=5/\least=0/\most= -1)=b):
  Calls Tryz.prog 84 #[.pointer (some ⟨g,o,none⟩)] w fun e w'=>e= .returned (.bool b)/\w'=w:=by
 by_cases hk:k=5
 ·subst hk
  by_cases hl:least=0
  ·subst hl
   by_cases hm:most= -1
   ·subst hm
    have HB:Hid (b=true):=hd (by rw[<-hb];simp)
    clear hb
    go_enter Tryz.func84,Tryz.ntmps84
    go_wp2
    go_ret
    rw[HB.out]
    exact⟨rfl,rfl⟩
   ·have hmb:(most== -1)=false:=by simpa using hm
    have HB:Hid (b=false):=hd (by rw[<-hb];simpa using hm)
    clear hm hb
    go_enter Tryz.func84,Tryz.ntmps84
    go_wp2
    go_ret
    rw[HB.out]
    exact⟨rfl,rfl⟩
  ·have hlb:(least==0)=false:=by simpa using hl
   have HB:Hid (b=false):=hd (by rw[<-hb];simp[hl])
   clear hl hb
   go_enter Tryz.func84,Tryz.ntmps84
   go_wp2
   go_ret
   rw[HB.out]
   exact⟨rfl,rfl⟩
 ·have hkb:(k==5)=false:=by simpa using hk
  have HB:Hid (b=false):=hd (by rw[<-hb];simp[hk])
  clear hk hb
  go_enter Tryz.func84,Tryz.ntmps84
  go_wp2
  go_ret
  rw[HB.out]
  exact⟨rfl,rfl⟩
def HasSaid(H:Fins)(dp:Nat):Prop:=∀(w:World) (ra:Option Addr) (rn rc:Nat) (its:List It),Fin w H->RowFin (ItemOk H dp) H ra rn its->
  Calls Tryz.prog 103 #[.slice ra rn rc] w fun e w'=>e= .returned (.bool (hasBs (its.map (·.3))))/\w'=w
theorem hasBs_no:∀ {its:List It},(∀j (h:j<its.length),hasB its[j].3=false)->hasBs (its.map (·.3))=false
 | [],_=>rfl
 |x::r,h=>by
  simp only[List.map_cons,hasBs]
  rw[show hasB x.3=false from h 0 (by simp),hasBs_no (fun j hj=>by have:=h (j+1) (by simp;omega);simpa using this)]
  rfl
theorem hasBs_yes{its:List It}{j:Nat}(hj:j<its.length)(h:hasB its[j].3=true):hasBs (its.map (·.3))=true:=by
 induction its generalizing j with
 |nil=>simp at hj
 |cons x r ih=>
  simp only[List.map_cons,hasBs]
  cases j with
  |zero=>rw[show hasB x.3=true from h];rfl
  |succ j=>rw[ih (j:=j) (by simpa using hj) (by simpa using h)];simp
theorem hasByte_step(H:Fins)(dp:Nat)(hI:∀d,dp=d+1->HasSaid H d):HasSaid H dp:=by
 intro w ra rn rc its hF hR
 obtain⟨hlen,hrn,hrow⟩:=hR
 have HI:=hd hI
 have HF:=hd hF
 have Hrow:=hd hrow
 have Hlen:=hd hlen
 clear hrow hlen hI hF
 go_enter Tryz.func103,Tryz.ntmps103
 go_wp2
 go_loop [3,4,7] (fun _ _ i=>∃k:Nat,i= .int .i64 k/\k<=rn/\Hid (∀j (h:j<its.length),j<k->hasB its[j].3=false)) (fun _ _ i=>rn-(intOf i).toNat)
 case atStart=>exact⟨0,rfl,Nat.zero_le _,hd (fun j _ hj=>by omega)⟩
 case round=>
  obtain⟨k,rfl,hk,Hno⟩:=hrel
  by_cases hlt:k<rn
  ·obtain⟨g,arr,hra,hg,hP⟩:∃g arr,ra=some ⟨g,0,none⟩/\H g=some arr/\∀i (h:i<its.length),ItemOk H dp (itemAt arr i) its[i]:=by
    rcases Hrow.out with h|h
    ·omega
    ·exact h
   subst hra
   have hkl:k<its.length:=by rw[Hlen.out];exact hlt
   have hok:=hP k hkl
   have hcell:∀j v,(itemAt arr k)[j]?=some v->w.cell? ⟨g,k*13+j,none⟩=some v:=fun j v hv=>itemAt_cell (HF.out g arr hg) k j v hv
   have HY:Hid (hasB its[k].3=true->hasBs (its.map (·.3))=true):=hd (fun h=>hasBs_yes hkl h)
   have HN:Hid (hasB its[k].3=false->∀j (h:j<its.length),j<k+1->hasB its[j].3=false):=hd (fun h j hj hj1=>by
    rcases Nat.lt_or_ge j k with h2|h2
    ·exact Hno.out j hj h2
    ·obtain rfl:j=k:=by omega
     exact h)
   obtain⟨d,rfl⟩:∃d,dp=d+1:=by
    cases dp with
    |zero=>exact hok.elim
    |succ d=>exact⟨d,rfl⟩
   obtain⟨a,num,least,most,ra',rn',rc',e,hk0,hk1,_,_,hcase⟩:=hok
   rw[e]at hcell
   have h0:w.cell? ⟨g,k*13,none⟩=some (.int .i64 its[k].1):=hcell 0 _ rfl
   have h10:w.cell? ⟨g,k*13+10,none⟩=some (.int .i64 least):=hcell 10 _ rfl
   have h12:w.cell? ⟨g,k*13+12,none⟩=some (.slice ra' rn' rc'):=hcell 12 _ rfl
   have hkn:(k:Int)<(rn:Int):=by omega
   obtain⟨it,hit⟩:∃it,its[k]=it:=⟨_,rfl⟩
   rw[hit]at HY HN h0 hcase hk0 hk1
   obtain⟨kd,sz,tr⟩:=it
   clear hcell e hP hg hit
   simp only at*
   rcases hcase with⟨rfl,its',hR',_,n,_,rfl⟩|⟨rfl,hl0,hl1,_,_,x,hR',_,rfl,_⟩|⟨hn4,hn5,_,hp⟩
   ·have Hc:=hd (HI.out d rfl w ra' rn' rc' its' HF.out hR')
    clear hR'
    cases hb:hasBs (its'.map (·.3))
    ·rw[hb]at Hc
     have HN':=hd (HN.out (by simp only[hasB];exact hb))
     clear hb
     go_wp2_with (go_at_call 103;refine Hc.out.mono ?_;rintro e w' ⟨rfl,rfl⟩)
     go_round
     case rel=>exact⟨k+1,by go_num,by omega,HN'⟩
     case measure=>simp[intOf];omega
    ·rw[hb]at Hc
     have HY':=hd (HY.out (by simp only[hasB];exact hb))
     clear hb
     go_wp2_with (go_at_call 103;refine Hc.out.mono ?_;rintro e w' ⟨rfl,rfl⟩)
     go_ret
     rw[HY'.out]
     exact⟨rfl,rfl⟩
   ·have Hc:=hd (HI.out d rfl w ra' rn' rc' [x] HF.out hR')
    have e0:hasBs ([x].map (·.3))=hasB x.3:=by simp[hasBs]
    rw[e0]at Hc
    clear hR' e0
    by_cases hlp:0<least
    ·cases hb:hasB x.3
     ·rw[hb]at Hc
      have HN':=hd (HN.out (by simp only[hasB,hb,Bool.and_false]))
      clear hb
      go_wp2_with (go_at_call 103;refine Hc.out.mono ?_;rintro e w' ⟨rfl,rfl⟩)
      go_round
      case rel=>exact⟨k+1,by go_num,by omega,HN'⟩
      case measure=>simp[intOf];omega
     ·rw[hb]at Hc
      have HY':=hd (HY.out (by simp[hasB,hb,hlp]))
      clear hb
      go_wp2_with (go_at_call 103;refine Hc.out.mono ?_;rintro e w' ⟨rfl,rfl⟩)
      go_ret
      rw[HY'.out]
      exact⟨rfl,rfl⟩
    ·have HN':=hd (HN.out (by simp[hasB,hlp]))
     go_wp2
     go_round
     case rel=>exact⟨k+1,by go_num,by omega,HN'⟩
     case measure=>simp[intOf];omega
   ·rcases hp with⟨rfl,f,rfl,_⟩|⟨rfl,rfl⟩|⟨rfl,rfl⟩|⟨rfl,n,_,rfl⟩
    ·have HY':=hd (HY.out (by simp[hasB]))
     go_wp2
     go_ret
     rw[HY'.out]
     exact⟨rfl,rfl⟩
    all_goals
     have HN':=hd (HN.out (by simp[hasB]))
     go_wp2
     go_round
     case rel=>exact⟨k+1,by go_num,by omega,HN'⟩
     case measure=>simp[intOf];omega
  ·have HZ:Hid (hasBs (its.map (·.3))=false):=hd (hasBs_no (fun j hj=>Hno.out j hj (by rw[Hlen.out]at hj;omega)))
   go_wp2
   go_ret
   rw[HZ.out]
   exact⟨rfl,rfl⟩
theorem hasByte_any (H : Fins) : ∀ dp, HasSaid H dp
  | 0 => hasByte_step H 0 (fun d h => by omega)
  | d + 1 => hasByte_step H (d + 1) (fun d' h => by obtain rfl : d' = d := by omega
                                                    exact hasByte_any H d')
end Go.Proofs.YtldiemjlpnachaaGreatDoor
namespace Go.Proofs.YtldiemjlpnachaaGreatDoor
open Go.RowKit
theorem owns_index{w:World}{base e size g n cap:Nat}{xs:List Value}(h:w.ownsRow base e size (.slice (some ⟨g,0,none⟩) n cap) n xs)(j:Nat)(hj:j<n*size):∃z,w.cell? ⟨g,j,none⟩=some z/\w.frozen? ⟨g,j,none⟩=false:=by
 obtain⟨cur,_,hg,_,_,_,hl,ht⟩:=owns_cells h
 obtain⟨v,hv⟩:∃v,xs[j]?=some v:=⟨xs[j]'(by omega),List.getElem?_eq_getElem _⟩
 exact⟨v,owns_cell h j v hv,by simp[World.frozen?,hg]⟩
theorem set_flat{α:Type}(m:Nat):∀(css:List (List α)) (i j:Nat) (c:List α) (v:α),(∀c∈css,c.length=m)->css[i]?=some c->j<m->css.flatten.set (i*m+j) v=(css.set i (c.set j v)).flatten
 | [],i,j,c,v,_,h,_=>by simp at h
 |x::r,0,j,c,v,hl,h,hj=>by
  simp at h
  subst h
  rw[Nat.zero_mul,Nat.zero_add,List.flatten_cons,List.set_append_left _ _ (by rw[hl x (by simp)];exact hj),List.set_cons_zero,List.flatten_cons]
 |x::r,i+1,j,c,v,hl,h,hj=>by
  have hx:=hl x (by simp)
  rw[List.flatten_cons,List.set_append_right _ _ (by rw[hx,Nat.add_mul];omega),hx,show(i+1)*m+j-m=i*m+j by rw[Nat.add_mul];omega,List.set_cons_succ,List.flatten_cons,set_flat m r i j c v (fun y hy=>hl y (by simp[hy])) (by simpa using h) hj]
theorem owns_set1{w:World}{base e size g n cap j:Nat}{xs:List Value}(h:w.ownsRow base e size (.slice (some ⟨g,0,none⟩) n cap) n xs)(hj:j<xs.length)(v:Value):
  (w.setCell ⟨g,j,none⟩ v).ownsRow base e size (.slice (some ⟨g,0,none⟩) n cap) n (xs.set j v):=by
 have e:xs=xs.take j++ [xs[j]]++xs.drop (j+1):=by simp
 rw[e]at h
 have:=owns_store (ps:=xs.take j) (zs:= [xs[j]]) (bs:=xs.drop (j+1)) (cs:= [v]) (k:=j) h (by simp;omega) rfl
 have e2:xs.set j v=xs.take j++ [v]++xs.drop (j+1):=by
  rw[List.set_eq_take_append_cons_drop,if_pos hj]
  simp
 rw[e2]
 exact this
theorem Fin.below{w w':World}{H:Fins}{C:Nat}(h:Fin w H)(hC:∀g arr,H g=some arr->g<C)(hb:Below C w w'):Fin w' H:=fun g arr hg=>by
 rw[hb.block g (hC g arr hg)]
 exact h g arr hg
def ItemBuilt(rf:List Nat)(vr:Value)(H:Fins)(dp:Nat):Prop:=∀(w:World) (base C d:Nat) (cs:List Sd) (g o:Nat) (cells:List Value) (it:It) (next:Nat),Fin w H->(∀g arr,H g=some arr->g<C)->CodeAt w base C rf vr d cs->g<C->(∀j v,cells[j]?=some v->w.cell? ⟨g,o+j,none⟩=some v)->ItemOk H dp cells it->
  bks rf it.3->it.2<=200->(d:Int)+it.2<=300->(itemD rf it.3 d next cs).1.length<=1000->
  Calls Tryz.prog 46 #[.pointer (some ⟨C,0,none⟩),.pointer (some ⟨g,o,none⟩),.int .i64 next] w fun e w'=>e= .returned (.int .i64 (itemD rf it.3 d next cs).2)/\CodeAt w' base C rf vr d (itemD rf it.3 d next cs).1/\Below C w w'
def RepBuilt(rf:List Nat)(vr:Value)(H:Fins)(dp:Nat):Prop:=∀(w:World) (base C d:Nat) (cs:List Sd) (g o:Nat) (cells:List Value) (it:It) (next:Nat),Fin w H->(∀g arr,H g=some arr->g<C)->CodeAt w base C rf vr d cs->g<C->(∀j v,cells[j]?=some v->w.cell? ⟨g,o+j,none⟩=some v)->ItemOk H dp cells it->it.1=5->
  bks rf it.3->it.2<=200->(d:Int)+it.2<=300->(itemD rf it.3 d next cs).1.length<=1000->
  Calls Tryz.prog 69 #[.pointer (some ⟨C,0,none⟩),.pointer (some ⟨g,o,none⟩),.int .i64 next] w fun e w'=>e= .returned (.int .i64 (itemD rf it.3 d next cs).2)/\CodeAt w' base C rf vr d (itemD rf it.3 d next cs).1/\Below C w w'
theorem rowD_drop(rf:List Nat)(r:List Tr)(d n:Nat)(c:List Sd):∀k,(rowD rf (r.drop k) d n c).1.length<=(rowD rf r d n c).1.length
 |0=>by simp
 |k+1=>by
  refine Nat.le_trans ?_ (rowD_drop rf r d n c k)
  rcases Nat.lt_or_ge k r.length with h|h
  ·rw[List.drop_eq_getElem_cons h,rowD]
   exact itemD_len _ _ _ _ _
  ·rw[List.drop_eq_nil_of_le h,List.drop_eq_nil_of_le (by omega)]
   exact Nat.le_refl _
theorem crow_any{rf:List Nat}{vr:Value}(H:Fins)(dp:Nat)(hI:ItemBuilt rf vr H dp)(w:World)(base C d:Nat)(cs:List Sd)(ra:Option Addr)(rn rc next:Nat)(its:List It)(hF:Fin w H)(hHC:∀g arr,H g=some arr->g<C)(hc:CodeAt w base C rf vr d cs)(hR:RowFin (ItemOk H dp) H ra rn its)
  (hbk:bkss rf (its.map (·.3)))(hsz:∀x∈its,x.2<=200/\(d:Int)+x.2<=300)(hlen:(rowD rf (its.map (·.3)) d next cs).1.length<=1000):
  Calls Tryz.prog 26 #[.pointer (some ⟨C,0,none⟩),.slice ra rn rc,.int .i64 next] w fun e w'=>e= .returned (.int .i64 (rowD rf (its.map (·.3)) d next cs).2)/\CodeAt w' base C rf vr d (rowD rf (its.map (·.3)) d next cs).1/\Below C w w':=by
 obtain⟨hln,hrn,hrow⟩:=hR
 have HI:=hd hI
 have HF:=hd hF
 have HC:=hd hHC
 have Hrow:=hd hrow
 have Hln:=hd hln
 have Hlen:=hd hlen
 have Hbk:=hd hbk
 have Hsz:=hd hsz
 clear hrow hln hI hF hHC hlen hbk hsz
 go_enter Tryz.func26,Tryz.ntmps26
 go_wp2
 go_loopw [7,8] (fun en i wr=>∃(k:Nat) (ee:Nat) (ll:List Sd),i= .int .i64 ((k:Int)-1)/\en= .int .i64 ee/\k<=rn/\CodeAt wr base C rf vr d ll/\Hid (Below C w wr)/\Hid (rowD rf ((its.map (·.3)).drop k) d next cs=(ll,ee))) (fun _ i _=>(intOf i+1).toNat)
 case atStart=>exact⟨rn,next,cs,rfl,rfl,Nat.le_refl _,hc,hd (Below.refl _ _),hd (by rw[List.drop_eq_nil_of_le (by rw[List.length_map,Hln.out];exact Nat.le_refl _),rowD])⟩
 case round=>
  obtain⟨k,ee,ll,rfl,rfl,hk,hcr,Hb,Hrc⟩:=hrel
  rcases Nat.eq_zero_or_pos k with h0|h0
  ·subst h0
   go_wp2
   go_ret
   have e:=Hrc.out
   rw[List.drop_zero]at e
   rw[e]
   exact⟨rfl,hcr,Hb.out⟩
  ·obtain⟨m,rfl⟩:∃m,k=m+1:=⟨k-1,by omega⟩
   obtain⟨g,arr,hra,hg,hP⟩:∃g arr,ra=some ⟨g,0,none⟩/\H g=some arr/\∀i (h:i<its.length),ItemOk H dp (itemAt arr i) its[i]:=by
    rcases Hrow.out with h|h
    ·omega
    ·exact h
   subst hra
   have hml:m<its.length:=by rw[Hln.out];omega
   have hF':=HF.out.below HC.out Hb.out
   have hstep:rowD rf ((its.map (·.3)).drop m) d next cs=itemD rf its[m].3 d ee ll:=by
    rw[List.drop_eq_getElem_cons (by rw[List.length_map];exact hml),rowD,Hrc.out,List.getElem_map]
   have hlm:=rowD_drop rf (its.map (·.3)) d next cs m
   rw[hstep]at hlm
   have hbm:bks rf its[m].3:=bkss_iff.1 Hbk.out _ (List.mem_map.2 ⟨its[m],List.getElem_mem hml,rfl⟩)
   have hsm:=Hsz.out its[m] (List.getElem_mem hml)
   have Hcall:=hd (HI.out wr base C d ll g (m*13) (itemAt arr m) its[m] ee hF' HC.out hcr (HC.out g arr hg) (fun j v hv=>itemAt_cell (hF' g arr hg) m j v hv) (hP m hml) hbm hsm.1 hsm.2 (Nat.le_trans hlm Hlen.out))
   have Hstep:=hd hstep
   obtain⟨ll2,ee2,hre⟩:∃ll2 ee2,itemD rf its[m].3 d ee ll=(ll2,ee2):=⟨_,_,rfl⟩
   rw[hre]at Hstep Hcall
   have hm0:(0:Int)<=(m:Int):=by omega
   have hm1:(m:Int)<(rn:Int):=by omega
   have hmm:((m+1:Nat):Int)-1=(m:Int):=by omega
   rw[hmm]
   clear hP hg hF' hstep hlm hre h0 hmm hcr hbm hsm
   go_wp2_with (go_at_call 46;refine Hcall.out.mono ?_;rintro e w' ⟨rfl,hc2,hb2⟩)
   go_roundw
   case rel=>exact⟨m,ee2,ll2,by go_num,rfl,by omega,hc2,hd (Hb.out.trans hb2),Hstep⟩
   case measure=>simp[intOf]
theorem CodeAt.depth{w:World}{base C d:Nat}{rf:List Nat}{vr:Value}{cs:List Sd}(h:CodeAt w base C rf vr d cs)(d':Nat)(hd':d'<=300)(v:Int)(hv:v=d'):CodeAt (w.setCell ⟨C,5,none⟩ (.int .i64 v)) base C rf vr d' cs/\Below C w (w.setCell ⟨C,5,none⟩ (.int .i64 v)):=by
 subst hv
 have hC:=h.hC
 have hbl:Below C w (w.setCell ⟨C,5,none⟩ (.int .i64 d')):=Below.setCell (Below.refl C w) (Nat.le_refl C) _
 have ne:∀j,j≠5->(w.setCell ⟨C,5,none⟩ (.int .i64 d')).cell? ⟨C,j,none⟩=w.cell? ⟨C,j,none⟩:=fun j hj=>World.cell?_setCell_other _ _ _ _ (by rintro e;cases e;exact hj rfl)
 obtain⟨v,css,h4,hown,hcs⟩:=h.rows
 obtain⟨u,hu⟩:=h.c1
 refine⟨⟨hC,by simp[World.setCell];exact h.hb,fun i hi=>by rw[World.frozen?_setCell];exact h.fz i hi,⟨u,(ne 1 (by omega)).trans hu⟩,(ne 2 (by omega)).trans h.c2,(ne 3 (by omega)).trans h.c3,(ne 4 (by omega)).trans h.c4,World.cell?_setCell_same _ _ _ h.c5,h.rf.below hbl,hd',h.dl,v,css,(ne 0 (by omega)).trans h4,ownsRow_setCell_other hown (fun e=>?_) _,hcs⟩,hbl⟩
 have:=(hown.lt _ e).1
 simp at this
 omega
theorem cbey_any{rf:List Nat}{vr:Value}(H:Fins)(dp:Nat)(hI:ItemBuilt rf vr H dp)(w:World)(base C d:Nat)(cs:List Sd)(g o:Nat)(ra:Option Addr)(rn rc next:Nat)(x:It)(hF:Fin w H)(hHC:∀g arr,H g=some arr->g<C)(hc:CodeAt w base C rf vr d cs)(hgC:g<C)
  (h12:w.cell? ⟨g,o+12,none⟩=some (.slice ra rn rc))(hR:RowFin (ItemOk H dp) H ra rn [x])(hbk:bks rf x.3)(hsz:x.2<=200/\(d:Int)+1+x.2<=300)(hx0:0<=x.2)(hlen:(beyD (rf.isEmpty||hasB x.3) (fun d n c=>itemD rf x.3 d n c) d next cs).1.length<=1000):
  Calls Tryz.prog 86 #[.pointer (some ⟨C,0,none⟩),.pointer (some ⟨g,o,none⟩),.int .i64 next] w fun e w'=>e= .returned (.int .i64 (beyD (rf.isEmpty||hasB x.3) (fun d n c=>itemD rf x.3 d n c) d next cs).2)/\CodeAt w' base C rf vr d (beyD (rf.isEmpty||hasB x.3) (fun d n c=>itemD rf x.3 d n c) d next cs).1/\Below C w w':=by
 have Hrow:=hd (fun w1 dd cc nn (hF1:Fin w1 H) (hc1:CodeAt w1 base C rf vr dd cc) (hdd:(dd:Int)+x.2<=300) (hl1:(itemD rf x.3 dd nn cc).1.length<=1000)=>crow_any H dp hI w1 base C dd cc ra rn rc nn [x] hF1 hHC hc1 hR (by simp only[List.map_cons,List.map_nil,bkss];exact⟨hbk,trivial⟩) (fun y hy=>by simp at hy;subst hy;exact⟨hsz.1,hdd⟩) (by simp only[List.map_cons,List.map_nil,rowD];exact hl1))
 simp only[List.map_cons,List.map_nil,rowD]at Hrow
 have Hhas:=hd (hasByte_any H dp w ra rn rc [x] hF hR)
 have e0:hasBs ([x].map (·.3))=hasB x.3:=by simp[hasBs]
 rw[e0]at Hhas
 have c2:=hc.c2
 have HF:=hd hF
 have HC:=hd hHC
 have hC:=hc.hC
 clear e0 hF hHC hI hR hbk
 cases hrf:rf with
 |nil=>
  subst hrf
  simp only[beyD,List.isEmpty_nil,Bool.true_or,if_true]at hlen ⊢
  have Hc:=hd (Hrow.out w d cs next HF.out hc (by omega) hlen)
  obtain⟨ll,ee,hre⟩:∃ll ee,itemD [] x.3 d next cs=(ll,ee):=⟨_,_,rfl⟩
  rw[hre]at Hc ⊢
  simp only[List.length_nil]at c2
  clear hre hc hlen
  go_enter Tryz.func86,Tryz.ntmps86
  go_wp2_with (go_at_call 26;refine Hc.out.mono ?_;rintro e w' ⟨rfl,hc2,hb2⟩)
  go_ret
  exact⟨rfl,hc2,hb2⟩
 |cons r0 rr=>
  rw[<-hrf]
  have hne:((rf.length:Int)==0)=false:=by rw[hrf];simp;omega
  have hemp:rf.isEmpty=false:=by rw[hrf];rfl
  rw[hemp,Bool.false_or]at hlen ⊢
  clear hrf hemp
  cases hb:hasB x.3
  ·rw[hb]at hlen Hhas
   simp only[beyD,Bool.false_eq_true,if_false]at hlen ⊢
   have hcn:cs.length+1<=1000:=by
    have:=itemD_len rf x.3 (d+1) cs.length (cs++ [(.gain next,d+1)])
    simp only[List.length_append,List.length_singleton]at this
    omega
   have hdp:=hc.depth (d+1) (by omega) ((d:Int)+1) (by omega)
   have c5:=hc.c5
   have f5:=hc.fz 5 (by omega)
   have hdm:=hc.dm
   have Hdp:=hd hdp
   clear hdp hc
   obtain⟨ll,ee,hre⟩:∃ll ee,itemD rf x.3 (d+1) cs.length (cs++ [(.gain next,d+1)])=(ll,ee):=⟨_,_,rfl⟩
   have Hre:=hd hre
   have Hlen:=hd hlen
   rw[hre]
   simp only
   clear hlen hre hb
   go_enter Tryz.func86,Tryz.ntmps86
   go_wp2_with fail
   refine Hhas.out.mono ?_
   rintro e w' ⟨rfl,hww⟩
   subst hww
   go_wp2_with fail
   refine(put_c Hdp.out.1 (by omega) 8 0 0 0 0 0 0 0 0 0 next 0 (.gain next) (fun _ _=>rfl)).mono ?_
   rintro e w1 ⟨rfl,hc1,hb1⟩
   have Hb1:=hd (Hdp.out.2.trans hb1)
   have g12:w1.cell? ⟨g,o+12,none⟩=some (.slice ra rn rc):=(Hb1.out.cell (by exact hgC)).trans h12
   have Hc:=hd (Hrow.out w1 (d+1) _ cs.length (HF.out.below HC.out Hb1.out) hc1 (by omega) Hlen.out)
   rw[Hre.out]at Hc
   simp only at Hc
   clear hb1 hc1 h12 c2 c5 f5
   go_wp2_with fail
   refine Hc.out.mono ?_
   rintro e w2 ⟨rfl,hc2,hb2⟩
   have c5:=hc2.c5
   have f5:=hc2.fz 5 (by omega)
   have ecast:((d+1:Nat):Int)=(d:Int)+1:=by omega
   rw[ecast]at c5
   have Hc2:=hd hc2
   have Hb2:=hd (Hb1.out.trans hb2)
   clear hc2 hb2 g12 ecast
   go_wp2
   go_ret
   exact⟨rfl,(Hc2.out.depth d hdm _ (by omega)).1,Hb2.out.trans (Hc2.out.depth d hdm _ (by omega)).2⟩
  ·rw[hb]at hlen Hhas
   simp only[beyD,if_true]at hlen ⊢
   have Hc:=hd (Hrow.out w d cs next HF.out hc (by omega) hlen)
   obtain⟨ll,ee,hre⟩:∃ll ee,itemD rf x.3 d next cs=(ll,ee):=⟨_,_,rfl⟩
   rw[hre]at Hc ⊢
   clear hre hc hlen
   go_enter Tryz.func86,Tryz.ntmps86
   go_wp2_with (first|(go_at_call 103;refine Hhas.out.mono ?_;rintro e w' ⟨rfl,rfl⟩)|(go_at_call 26;refine Hc.out.mono ?_;rintro e w' ⟨rfl,hc2,hb2⟩))
   go_ret
   exact⟨rfl,hc2,hb2⟩
theorem CodeAt.patch{w:World}{base C gs cap e ee next d d':Nat}{rf:List Nat}{vr:Value}{cs:List Sd}{css:List (List Value)}(h:CodeAt w base C rf vr d cs)(h4:w.cell? ⟨C,0,none⟩=some (.slice (some ⟨gs,0,none⟩) cs.length cap))(hgb:base<=gs)
  (hown:w.ownsRow base 95 14 (.slice (some ⟨gs,0,none⟩) cs.length cap) cs.length css.flatten)(hcs:SdsOk css cs)(he:cs[e]?=some (.fork 0 next,d')):
  CodeAt (w.setCell ⟨gs,e*14+10,none⟩ (.int .i64 ee)) base C rf vr d (cs.set e (.fork ee next,d'))/\Below C w (w.setCell ⟨gs,e*14+10,none⟩ (.int .i64 ee)):=by
 have hC:=h.hC
 have hel:e<cs.length:=(List.getElem?_eq_some_iff.1 he).1
 have hec:e<css.length:=by rw[hcs.1];exact hel
 have hc:=hcs.2 e css[e] _ (List.getElem?_eq_getElem hec) he
 obtain⟨u,hu⟩:=h.c1
 have hbl:Below C w (w.setCell ⟨gs,e*14+10,none⟩ (.int .i64 ee)):=Below.setCell (Below.refl C w) (by show C<=gs;omega) _
 have far:∀i,(w.setCell ⟨gs,e*14+10,none⟩ (.int .i64 ee)).cell? ⟨C,i,none⟩=w.cell? ⟨C,i,none⟩:=fun i=>World.cell?_setCell_far _ _ _ _ (by show gs≠C;omega)
 have hdx:∀x,cs[e]?=some x->x.2=d':=fun x hx=>by rw[he]at hx;cases hx;rfl
 refine⟨⟨hC,by simp[World.setCell];exact h.hb,fun i hi=>by rw[World.frozen?_setCell];exact h.fz i hi,⟨u,(far 1).trans hu⟩,(far 2).trans h.c2,?_,(far 4).trans h.c4,(far 5).trans h.c5,h.rf.below hbl,h.dm,fun x hx=>?_,_,css.set e (css[e].set 10 (.int .i64 ee)),(far 0).trans h4,?_,hcs.set hdx ?_⟩,hbl⟩
 ·rw[map_set_same hdx];exact(far 3).trans h.c3
 ·rcases List.mem_or_eq_of_mem_set hx with hx|rfl
  ·exact h.dl x hx
  ·exact h.dl (.fork 0 next,d') (List.mem_of_getElem? he)
 ·have hfl:=flat_len 14 css hcs.lens
  have:=owns_set1 hown (j:=e*14+10) (by rw[hfl];omega) (.int .i64 ee)
  rw[set_flat 14 css e 10 css[e] (.int .i64 ee) hcs.lens (List.getElem?_eq_getElem hec) (by omega)]at this
  simpa using this
 ·have e1:css[e]=stepCells 4 (fun _=>0) 0 0 next d' _:=hc
  rw[e1]
  rfl
theorem cloop_any{rf:List Nat}{vr:Value}(H:Fins)(dp:Nat)(hI:ItemBuilt rf vr H dp)(w:World)(base C d:Nat)(cs:List Sd)(g o:Nat)(ra:Option Addr)(rn rc next:Nat)(x:It)(hF:Fin w H)(hHC:∀g arr,H g=some arr->g<C)(hc:CodeAt w base C rf vr d cs)(hgC:g<C)
  (h12:w.cell? ⟨g,o+12,none⟩=some (.slice ra rn rc))(hR:RowFin (ItemOk H dp) H ra rn [x])(hbk:bks rf x.3)(hsz:x.2<=200/\(d:Int)+1+x.2<=300)(hx0:0<=x.2)(gb:Lay)(hgb:gb=beyD (rf.isEmpty||hasB x.3) (fun d n c=>itemD rf x.3 d n c))(hlen:(loopD gb d next cs).1.length<=1000):
  Calls Tryz.prog 85 #[.pointer (some ⟨C,0,none⟩),.pointer (some ⟨g,o,none⟩),.int .i64 next] w fun e w'=>e= .returned (.int .i64 (loopD gb d next cs).2)/\CodeAt w' base C rf vr d (loopD gb d next cs).1/\Below C w w':=by
 have hgd:Gd gb:=by rw[hgb];exact gd_bey (gd_item rf x.3) _
 obtain⟨hl1,hpre⟩:=hgd d cs.length (cs++ [(.fork 0 next,d)])
 have hpre:=hpre cs.length (by simp)
 have Hbey:=hd (fun w1 (hF1:Fin w1 H) (hc1:CodeAt w1 base C rf vr d (cs++ [(.fork 0 next,d)])) (g12:w1.cell? ⟨g,o+12,none⟩=some (.slice ra rn rc)) (hl:(gb d cs.length (cs++ [(.fork 0 next,d)])).1.length<=1000)=>cbey_any H dp hI w1 base C d (cs++ [(.fork 0 next,d)]) g o ra rn rc cs.length x hF1 hHC hc1 hgC g12 hR hbk hsz hx0 (by rw[<-hgb];exact hl))
 rw[<-hgb]at Hbey
 simp only[loopD]at hlen ⊢
 simp only[List.length_set]at hlen
 simp only[List.length_append,List.length_singleton]at hl1
 have Hput:=hd (put_c hc (by omega) 4 0 0 0 0 0 0 0 0 0 0 next (.fork 0 next) (fun _ _=>rfl))
 obtain⟨ll,ee,hre⟩:∃ll ee,gb d cs.length (cs++ [(.fork 0 next,d)])=(ll,ee):=⟨_,_,rfl⟩
 rw[hre]at Hbey hlen hl1 hpre ⊢
 simp only at Hbey hlen hl1 hpre ⊢
 rw[List.getElem?_append_right (Nat.le_refl _)]at hpre
 simp at hpre
 have HF:=hd hF
 have HC:=hd hHC
 have Hpre:=hd hpre
 have Hlen:=hd hlen
 clear hF hHC hI hR hc hre hpre hbk
 go_enter Tryz.func85,Tryz.ntmps85
 go_wp2_with fail
 refine Hput.out.mono ?_
 rintro e w1 ⟨rfl,hc1,hb1⟩
 have g12:w1.cell? ⟨g,o+12,none⟩=some (.slice ra rn rc):=(hb1.cell (by exact hgC)).trans h12
 have Hc1:=hd (Hbey.out w1 (HF.out.below HC.out hb1) hc1 g12 Hlen.out)
 have Hb1:=hd hb1
 clear hb1 h12 hc1
 go_wp2_with fail
 refine Hc1.out.mono ?_
 rintro e w2 ⟨rfl,hc2,hb2⟩
 obtain⟨v,css,h4,hown,hcs⟩:=hc2.rows
 obtain⟨gs,cap,rfl,hgb2,hgl⟩:=hown.form (by omega)
 obtain⟨z,hz,hzf⟩:=owns_index hown (cs.length*14+10) (by omega)
 have hi0:(0:Int)<=(cs.length:Int):=by omega
 have hi1:(cs.length:Int)<(ll.length:Int):=by omega
 have Hc2:=hd hc2
 have Hown:=hd hown
 have Hcs:=hd hcs
 have Hb2:=hd (Hb1.out.trans hb2)
 clear hc2 hown hcs hb2 g12
 go_wp2
 go_ret
 have hP:=Hc2.out.patch (ee:=ee) h4 hgb2 Hown.out Hcs.out Hpre.out
 exact⟨rfl,hP.1,Hb2.out.trans hP.2⟩
theorem rowGo_sum(l:List Int):∀n,0<=n->(∀x∈l,0<=x)->rowGo l n<=200->rowGo l n=n+sumSz l:=by
 induction l with
 |nil=>intro n _ _ _;simp[rowGo,sumSz]
 |cons x r ih=>
  intro n h0 hx h
  rw[rowGo,sumSz]at*
  have hx0:=hx x (by simp)
  have hr:∀y∈r,0<=y:=fun y hy=>hx y (by simp[hy])
  by_cases hb:201<n+x
  ·rw[if_pos hb]at h
   have:∀(r:List Int) m,(∀y∈r,0<=y)->201<=m->201<=rowGo r m:=by
    intro r
    induction r with
    |nil=>intro m _ h;exact h
    |cons y q ih=>intro m hy h;rw[rowGo];exact ih _ (fun z hz=>hy z (by simp[hz])) (by have:=hy y (by simp);split<;>omega)
   have:=this r 201 hr (by omega)
   omega
  ·rw[if_neg hb]at h ⊢
   rw[ih _ (by omega) hr h]
   omega
theorem sumSz_le:∀(q:List Int),(∀y∈q,0<=y)->0<=sumSz q/\∀y∈q,y<=sumSz q
 | [],_=>⟨by simp[sumSz],fun y hy=>by simp at hy⟩
 |z::q,h=>by
  obtain⟨h1,h2⟩:=sumSz_le q (fun y hy=>h y (by simp[hy]))
  have hz:=h z (by simp)
  rw[sumSz]
  refine⟨by omega,fun y hy=>?_⟩
  rcases List.mem_cons.1 hy with rfl|hy
  ·omega
  ·have:=h2 y hy;omega
theorem rowOk{H:Fins}{d:Nat}{ra:Option Addr}{rn:Nat}{its:List It}(hR:RowFin (ItemOk H d) H ra rn its):∀i (h:i<its.length),∃c,ItemOk H d c its[i]:=by
 intro i hi
 obtain⟨h1,h2,h3⟩:=hR
 rcases h3 with h3|⟨g,arr,_,_,hP⟩
 ·omega
 ·exact⟨_,hP i hi⟩
theorem row_sz{H:Fins}{d:Nat}{ra:Option Addr}{rn:Nat}{its:List It}(hR:RowFin (ItemOk H d) H ra rn its)(hs:rowSz (its.map (·.2))<=200):rowSz (its.map (·.2))=1+sumSz (its.map (·.2))/\0<=sumSz (its.map (·.2))/\∀x∈its,0<=x.2/\x.2<=sumSz (its.map (·.2)):=by
 have hpos:∀y∈its.map (·.2),0<=y:=fun y hy=>by
  obtain⟨z,hz,rfl⟩:=List.mem_map.1 hy
  obtain⟨i,hi,rfl⟩:=List.getElem_of_mem hz
  obtain⟨c,hc⟩:=rowOk hR i hi
  exact hc.bd.1
 obtain⟨h1,h2⟩:=sumSz_le _ hpos
 refine⟨rowGo_sum _ 1 (by omega) hpos hs,h1,fun x hx=>?_⟩
 have hm:x.2∈its.map (·.2):=List.mem_map.2 ⟨x,hx,rfl⟩
 exact⟨hpos _ hm,h2 _ hm⟩
theorem cgroup_any{rf:List Nat}{vr:Value}(hrl:rf.length<=2)(H:Fins)(dp:Nat)(hI:ItemBuilt rf vr H dp)(w:World)(base C d:Nat)(cs:List Sd)(g o num:Nat)(ra:Option Addr)(rn rc next:Nat)(its:List It)(hF:Fin w H)(hHC:∀g arr,H g=some arr->g<C)(hc:CodeAt w base C rf vr d cs)(hgC:g<C)
  (h9:w.cell? ⟨g,o+9,none⟩=some (.int .i64 num))(h12:w.cell? ⟨g,o+12,none⟩=some (.slice ra rn rc))(hR:RowFin (ItemOk H dp) H ra rn its)(hbk:bkss rf (its.map (·.3)))(hsz:∀x∈its,x.2<=200/\(d:Int)+x.2<=300)(hlen:(itemD rf (.grp num (its.map (·.3))) d next cs).1.length<=1000):
  Calls Tryz.prog 68 #[.pointer (some ⟨C,0,none⟩),.pointer (some ⟨g,o,none⟩),.int .i64 next] w fun e w'=>e= .returned (.int .i64 (itemD rf (.grp num (its.map (·.3))) d next cs).2)/\CodeAt w' base C rf vr d (itemD rf (.grp num (its.map (·.3))) d next cs).1/\Below C w w':=by
 have Hslot:=hd (slot_any (n:=num) hc.c4 hc.rf hrl _ rfl)
 have Hrow:=hd (fun w1 cc nn (hF1:Fin w1 H) (hc1:CodeAt w1 base C rf vr d cc) (hl1:(rowD rf (its.map (·.3)) d nn cc).1.length<=1000)=>crow_any H dp hI w1 base C d cc ra rn rc nn its hF1 hHC hc1 hR hbk hsz hl1)
 have HF:=hd hF
 have HC:=hd hHC
 clear hF hHC hI hR hbk hsz
 simp only[itemD]at hlen ⊢
 by_cases hm:num∈rf
 ·rw[if_pos hm]at hlen ⊢
  have es:slotV rf num=((rf.idxOf num:Nat):Int):=by unfold slotV;rw[if_pos hm]
  rw[es]at Hslot
  generalize rf.idxOf num=sl at*
  have hcn:cs.length+1<=1000:=by
   have:=rowD_len rf (its.map (·.3)) d cs.length (cs++ [(.shut sl next,d)])
   simp only[List.length_append,List.length_singleton]at this hlen
   omega
  have Hput:=hd (put_c hc (by omega) 6 0 0 0 0 0 0 0 0 sl next 0 (.shut sl next) (fun _ _=>rfl))
  obtain⟨ll,ee,hre⟩:∃ll ee,rowD rf (its.map (·.3)) d cs.length (cs++ [(.shut sl next,d)])=(ll,ee):=⟨_,_,rfl⟩
  have Hre:=hd hre
  rw[hre]at hlen ⊢
  simp only[List.length_append,List.length_singleton]at hlen ⊢
  clear hre hc hm es
  have hs0:¬((sl:Int)<0):=by omega
  go_enter Tryz.func68,Tryz.ntmps68
  go_wp2_with fail
  refine Hslot.out.mono ?_
  rintro e w' ⟨rfl,hww⟩
  subst hww
  go_wp2_with fail
  refine Hput.out.mono ?_
  rintro e w1 ⟨rfl,hc1,hb1⟩
  have g12:w1.cell? ⟨g,o+12,none⟩=some (.slice ra rn rc):=(hb1.cell (by exact hgC)).trans h12
  have Hc1:=hd (Hrow.out w1 _ cs.length (HF.out.below HC.out hb1) hc1 (by rw[Hre.out];show ll.length<=1000;omega))
  rw[Hre.out]at Hc1
  simp only at Hc1
  have Hb1:=hd hb1
  clear hb1 h12 h9 hc1
  go_wp2_with fail
  refine Hc1.out.mono ?_
  rintro e w2 ⟨rfl,hc2,hb2⟩
  have Hput2:=hd (put_c hc2 (by omega) 5 0 0 0 0 0 0 0 0 sl ee 0 (.opn sl ee) (fun _ _=>rfl))
  have Hb2:=hd (Hb1.out.trans hb2)
  clear hc2 hb2 g12
  go_wp2_with fail
  refine Hput2.out.mono ?_
  rintro e w3 ⟨rfl,hc3,hb3⟩
  go_wp2
  go_ret
  exact⟨rfl,hc3,Hb2.out.trans hb3⟩
 ·rw[if_neg hm]at hlen ⊢
  have es:slotV rf num= -1:=by unfold slotV;rw[if_neg hm]
  rw[es]at Hslot
  have Hc:=hd (Hrow.out w cs next HF.out hc hlen)
  obtain⟨ll,ee,hre⟩:∃ll ee,rowD rf (its.map (·.3)) d next cs=(ll,ee):=⟨_,_,rfl⟩
  rw[hre]at Hc ⊢
  simp only at Hc ⊢
  clear hre hc hm es
  go_enter Tryz.func68,Tryz.ntmps68
  go_wp2_with (first|(go_at_call 67;refine Hslot.out.mono ?_;rintro e w' ⟨rfl,rfl⟩)|(go_at_call 26;refine Hc.out.mono ?_;rintro e w' ⟨rfl,hc2,hb2⟩))
  go_ret
  exact⟨rfl,hc2,hb2⟩
end Go.Proofs.YtldiemjlpnachaaGreatDoor
namespace Go.Proofs.YtldiemjlpnachaaGreatDoor
open Go.RowKit
theorem forksD_mono{g:Lay}(hg:Gd g)(d n e:Nat)(c:List Sd):∀t k,(forksD g d n t e c).1.length<=(forksD g d n (t+k) e c).1.length
 |t,0=>Nat.le_refl _
 |t,k+1=>by
  refine Nat.le_trans (forksD_mono hg d n e c t k) ?_
  rw[<-Nat.add_assoc,forksD]
  simp only[List.length_append,List.length_singleton]
  have:=(hg d (forksD g d n (t+k) e c).2 (forksD g d n (t+k) e c).1).1
  omega
theorem copiesD_mono{g:Lay}(hg:Gd g)(d e:Nat)(c:List Sd):∀t k,(copiesD g d t e c).1.length<=(copiesD g d (t+k) e c).1.length
 |t,0=>Nat.le_refl _
 |t,k+1=>by
  refine Nat.le_trans (copiesD_mono hg d e c t k) ?_
  rw[<-Nat.add_assoc,copiesD]
  exact(hg _ _ _).1
theorem repD_eq(g gb:Lay)(a b:Int)(ha:0<=a)(d n:Nat)(c c1:List Sd)(e1:Nat)(h1:(if b= -1 then loopD gb d n c else(c,n))=(c1,e1)):
  repD g gb a b d n c=copiesD g d a.toNat (forksD gb d n (b-a).toNat e1 c1).2 (forksD gb d n (b-a).toNat e1 c1).1:=by
 unfold repD
 by_cases hb:b= -1
 ·rw[if_pos hb]at h1 ⊢
  have:(b-a).toNat=0:=by omega
  rw[this,forksD,h1]
 ·rw[if_neg hb]at h1 ⊢
  cases h1
  rfl
theorem crep_step{rf:List Nat}{vr:Value}(H:Fins)(dp:Nat)(hI:ItemBuilt rf vr H dp)(hRB:RepBuilt rf vr H dp):RepBuilt rf vr H (dp+1):=by
 intro w base C d cs g o cells it next hF hHC hc hgC hcs hok hk5 hbk hsz hdsz hlen
 obtain⟨a,num,least,most,ra,rn,rc,rfl,_,_,_,_,hcase⟩:=hok
 have h0:w.cell? ⟨g,o,none⟩=some (.int .i64 it.1):=hcs 0 _ rfl
 have h10:w.cell? ⟨g,o+10,none⟩=some (.int .i64 least):=hcs 10 _ rfl
 have h11:w.cell? ⟨g,o+11,none⟩=some (.int .i64 most):=hcs 11 _ rfl
 have h12:w.cell? ⟨g,o+12,none⟩=some (.slice ra rn rc):=hcs 12 _ rfl
 clear hcs
 obtain⟨kd,sz,tr⟩:=it
 simp only at*
 subst hk5
 rcases hcase with⟨h4,_⟩|⟨_,hl0,hl1,hm0,hm1,x,hR,hsx,rfl,hlm⟩|⟨_,h5,_⟩
 ·omega
 rotate_left
 ·exact absurd rfl h5
 have hxb:0<=x.2/\x.2+1<=sz:=by
  obtain⟨c,hx⟩:=rowOk hR 0 (by simp)
  simp only[List.getElem_cons_zero]at hx
  have hx0:=hx.bd.1
  have hcb:=cop_bd least most ⟨hl0,hl1⟩ ⟨hm0,hm1⟩
  unfold repSz at hsx
  by_cases hb:201<1+cop least most*x.2
  ·rw[if_pos hb]at hsx;omega
  ·rw[if_neg hb]at hsx
   have:=Int.mul_le_mul_of_nonneg_right hcb.1 hx0
   omega
 simp only[bks]at hbk
 obtain⟨hln,hrn,hrow⟩:=id hR
 simp only[List.length_singleton]at hln
 subst hln
 obtain⟨gr,arr,hra,hgr,hP⟩:∃g arr,ra=some ⟨g,0,none⟩/\H g=some arr/\∀i (h:i< [x].length),ItemOk H dp (itemAt arr i) [x][i]:=by
  rcases hrow with h|h
  ·omega
  ·exact h
 have hx:=hP 0 (by simp)
 simp only[List.getElem_cons_zero]at hx
 have hxc:∀j v,(itemAt arr 0)[j]?=some v->w.cell? ⟨gr,0+j,none⟩=some v:=fun j v hv=>by
  have:=itemAt_cell (hF gr arr hgr) 0 j v hv
  simpa using this
 obtain⟨xa,xnum,xl,xm,xra,xrn,xrc,xe,xk0,xk1,xst⟩:=hx.star
 rw[xe]at hxc
 have y0:w.cell? ⟨gr,0,none⟩=some (.int .i64 x.1):=hxc 0 _ rfl
 have y10:w.cell? ⟨gr,10,none⟩=some (.int .i64 xl):=hxc 10 _ rfl
 have y11:w.cell? ⟨gr,11,none⟩=some (.int .i64 xm):=hxc 11 _ rfl
 have HS2:=hd (isStar_any w gr 0 x.1 xl xm y0 (by simpa using y10) (by simpa using y11) (starT x.3) xst.symm)
 clear hrow hP y0 y10 y11
 by_cases hss:(least=0/\most= -1)/\starT x.3=true
 ·obtain⟨⟨rfl,rfl⟩,hst⟩:=hss
  have hitem:itemD rf (.rep 0 (-1) x.3) d next cs=itemD rf x.3 d next cs:=by rw[itemD,if_pos ⟨⟨rfl,rfl⟩,hst⟩]
  rw[hitem]at hlen ⊢
  rw[hst]at HS2 xst
  have hx5:x.1=5:=by have:=xst.symm;simp at this;exact this.1
  have Hc:=hd (hRB w base C d cs gr 0 (itemAt arr 0) x next hF hHC hc (hHC gr arr hgr) (fun j v hv=>by have:=itemAt_cell (hF gr arr hgr) 0 j v hv;simpa using this) hx hx5 hbk (by omega) (by omega) hlen)
  have HS1:=hd (isStar_any w g o 5 0 (-1) h0 h10 h11 true (by simp))
  obtain⟨ll,ee,hre⟩:∃ll ee,itemD rf x.3 d next cs=(ll,ee):=⟨_,_,rfl⟩
  rw[hre]at Hc ⊢
  simp only at Hc ⊢
  subst hra
  clear hitem hre hc hF hHC hI hRB hR hx hxc xst hst xe hbk hlen hgr
  go_enter Tryz.func69,Tryz.ntmps69
  go_wp2_with fail
  refine HS1.out.mono ?_
  rintro e w' ⟨rfl,hww⟩
  subst w'
  go_wp2_with fail
  refine HS2.out.mono ?_
  rintro e w' ⟨rfl,hww⟩
  subst w'
  go_wp2_with fail
  refine Hc.out.mono ?_
  rintro e w' ⟨rfl,hc2,hb2⟩
  go_wp2
  go_ret
  exact⟨rfl,hc2,hb2⟩
 have hitem:itemD rf (.rep least most x.3) d next cs=repD (fun d n c=>itemD rf x.3 d n c) (beyD (rf.isEmpty||hasB x.3) (fun d n c=>itemD rf x.3 d n c)) least most d next cs:=by simp only[itemD];rw[if_neg hss]
 rw[hitem]at hlen ⊢
 obtain⟨gb,hgb⟩:∃gb,gb=beyD (rf.isEmpty||hasB x.3) (fun d n c=>itemD rf x.3 d n c):=⟨_,rfl⟩
 rw[<-hgb]at hlen ⊢
 obtain⟨r,hr⟩:∃r,repD (fun d n c=>itemD rf x.3 d n c) gb least most d next cs=r:=⟨_,rfl⟩
 rw[hr]at hlen ⊢
 obtain⟨c1,e1,h1⟩:∃c1 e1,(if most= -1 then loopD gb d next cs else(cs,next))=(c1,e1):=⟨_,_,rfl⟩
 rw[repD_eq _ _ _ _ hl0 _ _ _ c1 e1 h1]at hr
 have hg:Gd (fun d n c=>itemD rf x.3 d n c):=gd_item rf x.3
 have hgg:Gd gb:=by rw[hgb];exact gd_bey hg _
 obtain⟨c2,e2,h2⟩:∃c2 e2,forksD gb d next (most-least).toNat e1 c1=(c2,e2):=⟨_,_,rfl⟩
 rw[h2]at hr
 simp only at hr
 have hln2:∀t,t<=least.toNat->(copiesD (fun d n c=>itemD rf x.3 d n c) d t e2 c2).1.length<=1000:=fun t ht=>by
  have:=copiesD_mono hg d e2 c2 t (least.toNat-t)
  rw[show t+(least.toNat-t)=least.toNat by omega,hr]at this
  omega
 have hln1:∀t,t<=(most-least).toNat->(forksD gb d next t e1 c1).1.length<=1000:=fun t ht=>by
  have:=forksD_mono hgg d next e1 c1 t ((most-least).toNat-t)
  rw[show t+((most-least).toNat-t)=(most-least).toNat by omega,h2]at this
  have h0:=hln2 0 (by omega)
  rw[copiesD]at h0
  omega
 have Hrow:=hd (fun w1 cc nn (hF1:Fin w1 H) (hc1:CodeAt w1 base C rf vr d cc) (hl1:(itemD rf x.3 d nn cc).1.length<=1000)=>crow_any H dp hI w1 base C d cc ra 1 rc nn [x] hF1 hHC hc1 hR (by simp only[List.map_cons,List.map_nil,bkss];exact⟨hbk,trivial⟩) (fun y hy=>by simp at hy;subst hy;exact⟨by omega,by omega⟩) (by simp only[List.map_cons,List.map_nil,rowD];exact hl1))
 simp only[List.map_cons,List.map_nil,rowD]at Hrow
 have Hbey:=hd (fun w1 cc nn (hF1:Fin w1 H) (hc1:CodeAt w1 base C rf vr d cc) (g12:w1.cell? ⟨g,o+12,none⟩=some (.slice ra 1 rc)) (hl1:(gb d nn cc).1.length<=1000)=>cbey_any H dp hI w1 base C d cc g o ra 1 rc nn x hF1 hHC hc1 hgC g12 hR hbk ⟨by omega,by omega⟩ hxb.1 (by rw[<-hgb];exact hl1))
 rw[<-hgb]at Hbey
 have Hloop:=hd (fun hmo:most= -1=>cloop_any H dp hI w base C d cs g o ra 1 rc next x hF hHC hc hgC h12 hR hbk ⟨by omega,by omega⟩ hxb.1 gb hgb (by
  rw[if_pos hmo]at h1
  rw[h1]
  exact hln1 0 (by omega)))
 have HF:=hd hF
 have HC:=hd hHC
 have H1:=hd h1
 have H2:=hd h2
 have Hr:=hd hr
 have Hln1:=hd hln1
 have Hln2:=hd hln2
 have hz0:=hln1 0 (by omega)
 rw[forksD]at hz0
 have cellsOf':∀wr,Below C w wr->wr.cell? ⟨g,o+10,none⟩=some (.int .i64 least)/\wr.cell? ⟨g,o+11,none⟩=some (.int .i64 most)/\wr.cell? ⟨g,o+12,none⟩=some (.slice ra 1 rc):=fun _ hb=>⟨(hb.cell (by exact hgC)).trans h10,(hb.cell (by exact hgC)).trans h11,(hb.cell (by exact hgC)).trans h12⟩
 have Hcells:=hd cellsOf'
 have hgbl:∀d n c,c.length<=(gb d n c).1.length:=fun d n c=>(hgg d n c).1
 have Hgbl:=hd hgbl
 clear hgbl cellsOf' hF hHC hI hRB hR h1 h2 hr hln1 hln2 hg hgg hz0 hitem hgb hbk hx hxc xst xe hgr hsx
 subst hra
 by_cases hmo:most= -1
 ·have hL:=Hloop.out hmo
  have e0:=H1.out
  rw[if_pos hmo]at e0
  rw[e0]at hL
  simp only at hL
  have HL:=hd hL
  clear hL e0
  subst hmo
  by_cases hlz:least=0
  ·subst hlz
   have hst:starT x.3=false:=by
    cases hb:starT x.3 with
    |false=>rfl
    |true=>exact absurd ⟨⟨rfl,rfl⟩,hb⟩ hss
   rw[hst]at HS2
   have HS1:=hd (isStar_any w g o 5 0 (-1) h0 h10 h11 true (by simp))
   clear hss hst
   go_enter Tryz.func69,Tryz.ntmps69
   go_wp2_with fail
   refine HS1.out.mono ?_
   rintro e w' ⟨rfl,hww⟩
   subst w'
   go_wp2_with fail
   refine HS2.out.mono ?_
   rintro e w' ⟨rfl,hww⟩
   subst w'
   go_wp2_with fail
   refine HL.out.mono ?_
   rintro e W ⟨rfl,hcW,hbW⟩
   have HbW:=hd hbW
   obtain⟨g10,g11,g12⟩:=Hcells.out W HbW.out
   clear hbW h10 h11 h12 h0
   go_wp2
   clear g10 g11 g12
   go_loopw [7,8] (fun en k wr=>∃(t:Nat) (ll:List Sd) (ee:Nat),k= .int .i64 ((0:Int)+t)/\en= .int .i64 ee/\t<=((-1)-(0:Int)).toNat/\CodeAt wr base C rf vr d ll/\Hid (Below C w wr)/\Hid (forksD gb d next t e1 c1=(ll,ee))) (fun _ k _=>((-1)-intOf k).toNat)
   case atStart=>exact⟨0,c1,e1,by go_num,rfl,Nat.zero_le _,hcW,HbW,hd rfl⟩
   case round=>
    obtain⟨t,ll,ee,rfl,rfl,ht,hcr,Hb,Hfk⟩:=hrel
    obtain⟨g10,g11,g12⟩:=Hcells.out wr Hb.out
    by_cases hlt:(0:Int)+t<(-1)
    ·omega
    ·have hte:((-1)-(0:Int)).toNat=t:=by omega
     have H2':Hid (ll=c2/\ee=e2):=by
      have e0:=H2.out
      rw[hte,Hfk.out]at e0
      exact hd (by simpa using e0)
     obtain⟨rfl,rfl⟩:=H2'.out
     go_wp2
     go_loopw [7,10] (fun en k wr=>∃(t:Nat) (l3:List Sd) (e3:Nat),k= .int .i64 t/\en= .int .i64 e3/\t<=(0:Int).toNat/\CodeAt wr base C rf vr d l3/\Hid (Below C w wr)/\Hid (copiesD (fun d n c=>itemD rf x.3 d n c) d t ee ll=(l3,e3))) (fun _ k _=>((0:Int)-intOf k).toNat)
     case atStart=>exact⟨0,ll,ee,rfl,rfl,Nat.zero_le _,hcr,Hb,hd rfl⟩
     case round=>
      clear g10 g11 g12 hcr Hb
      obtain⟨t2,l3,e3,rfl,rfl,ht2,hcr,Hb,Hcp⟩:=hrel
      obtain⟨g10,g11,g12⟩:=Hcells.out wr Hb.out
      by_cases hlt2:(t2:Int)<(0:Int)
      ·omega
      ·have hte2:(0:Int).toNat=t2:=by omega
       go_wp2
       go_ret
       have e0:=Hr.out
       rw[hte2,Hcp.out]at e0
       rw[<-e0]
       exact⟨rfl,hcr,Hb.out⟩
  have HS1:=hd (isStar_any w g o 5 least (-1) h0 h10 h11 false (by simp[hlz]))
  clear hss
  go_enter Tryz.func69,Tryz.ntmps69
  go_wp2_with fail
  refine HS1.out.mono ?_
  rintro e w' ⟨rfl,hww⟩
  subst w'
  go_wp2_with fail
  refine HL.out.mono ?_
  rintro e W ⟨rfl,hcW,hbW⟩
  have HbW:=hd hbW
  obtain⟨g10,g11,g12⟩:=Hcells.out W HbW.out
  clear hbW h10 h11 h12 h0
  go_wp2
  clear g10 g11 g12
  go_loopw [7,8] (fun en k wr=>∃(t:Nat) (ll:List Sd) (ee:Nat),k= .int .i64 (least+t)/\en= .int .i64 ee/\t<=((-1)-least).toNat/\CodeAt wr base C rf vr d ll/\Hid (Below C w wr)/\Hid (forksD gb d next t e1 c1=(ll,ee))) (fun _ k _=>((-1)-intOf k).toNat)
  case atStart=>exact⟨0,c1,e1,by go_num,rfl,Nat.zero_le _,hcW,HbW,hd rfl⟩
  case round=>
   obtain⟨t,ll,ee,rfl,rfl,ht,hcr,Hb,Hfk⟩:=hrel
   obtain⟨g10,g11,g12⟩:=Hcells.out wr Hb.out
   by_cases hlt:least+t<(-1)
   ·omega
   ·have hte:((-1)-least).toNat=t:=by omega
    have H2':Hid (ll=c2/\ee=e2):=by
     have e0:=H2.out
     rw[hte,Hfk.out]at e0
     exact hd (by simpa using e0)
    obtain⟨rfl,rfl⟩:=H2'.out
    go_wp2
    go_loopw [7,10] (fun en k wr=>∃(t:Nat) (l3:List Sd) (e3:Nat),k= .int .i64 t/\en= .int .i64 e3/\t<=least.toNat/\CodeAt wr base C rf vr d l3/\Hid (Below C w wr)/\Hid (copiesD (fun d n c=>itemD rf x.3 d n c) d t ee ll=(l3,e3))) (fun _ k _=>(least-intOf k).toNat)
    case atStart=>exact⟨0,ll,ee,rfl,rfl,Nat.zero_le _,hcr,Hb,hd rfl⟩
    case round=>
     clear g10 g11 g12 hcr Hb
     obtain⟨t2,l3,e3,rfl,rfl,ht2,hcr,Hb,Hcp⟩:=hrel
     obtain⟨g10,g11,g12⟩:=Hcells.out wr Hb.out
     by_cases hlt2:(t2:Int)<least
     ·obtain⟨l4,e4,hg⟩:∃l4 e4,itemD rf x.3 d e3 l3=(l4,e4):=⟨_,_,rfl⟩
      have hnx:copiesD (fun d n c=>itemD rf x.3 d n c) d (t2+1) ee ll=(l4,e4):=by
       rw[copiesD,Hcp.out]
       exact hg
      have hl2:=Hln2.out (t2+1) (by omega)
      rw[hnx]at hl2
      have Hc1:=hd (Hrow.out wr l3 e3 (HF.out.below HC.out Hb.out) hcr (by rw[hg];exact hl2))
      rw[hg]at Hc1
      simp only at Hc1
      have Hnx:=hd hnx
      clear hnx hg hcr
      go_wp2_with fail
      refine Hc1.out.mono ?_
      rintro e w1 ⟨rfl,hc1,hb1⟩
      go_wp2
      go_roundw
      case rel=>exact⟨t2+1,l4,e4,by go_num,rfl,by omega,hc1,hd (Hb.out.trans hb1),Hnx⟩
      case measure=>simp[intOf];omega
     ·have hte2:least.toNat=t2:=by omega
      go_wp2
      go_ret
      have e0:=Hr.out
      rw[hte2,Hcp.out]at e0
      rw[<-e0]
      exact⟨rfl,hcr,Hb.out⟩
 ·have e0:=H1.out
  rw[if_neg hmo]at e0
  simp only[Prod.mk.injEq]at e0
  obtain⟨rfl,rfl⟩:=e0
  have hmb:(most== -1)=false:=by simpa using hmo
  have HS1:=hd (isStar_any w g o 5 least most h0 h10 h11 false (by simp[hmo]))
  clear hmo hss
  have hcW:=hc
  have HbW:=hd (Below.refl C w)
  go_enter Tryz.func69,Tryz.ntmps69
  go_wp2_with fail
  refine HS1.out.mono ?_
  rintro e w' ⟨rfl,hww⟩
  subst w'
  go_wp2
  clear h10 h11 h12 hc h0
  go_loopw [7,8] (fun en k wr=>∃(t:Nat) (ll:List Sd) (ee:Nat),k= .int .i64 (least+t)/\en= .int .i64 ee/\t<=(most-least).toNat/\CodeAt wr base C rf vr d ll/\Hid (Below C w wr)/\Hid (forksD gb d next t next cs=(ll,ee))) (fun _ k _=>(most-intOf k).toNat)
  case atStart=>exact⟨0,cs,next,by go_num,rfl,Nat.zero_le _,hcW,HbW,hd rfl⟩
  case round=>
   obtain⟨t,ll,ee,rfl,rfl,ht,hcr,Hb,Hfk⟩:=hrel
   obtain⟨g10,g11,g12⟩:=Hcells.out wr Hb.out
   by_cases hlt:least+t<most
   ·obtain⟨l2,ee2,hg⟩:∃l2 ee2,gb d ee ll=(l2,ee2):=⟨_,_,rfl⟩
    have hnx:forksD gb d next (t+1) next cs=(l2++ [(.fork ee2 next,d)],l2.length):=by
     rw[forksD,Hfk.out]
     simp only[hg]
    have hl2:=Hln1.out (t+1) (by omega)
    rw[hnx]at hl2
    simp only[List.length_append,List.length_singleton]at hl2
    have Hc1:=hd (Hbey.out wr ll ee (HF.out.below HC.out Hb.out) hcr g12 (by rw[hg];show l2.length<=1000;omega))
    rw[hg]at Hc1
    simp only at Hc1
    have Hnx:=hd hnx
    clear hnx hg hcr
    go_wp2_with fail
    refine Hc1.out.mono ?_
    rintro e w1 ⟨rfl,hc1,hb1⟩
    have Hp:=hd (put_c hc1 (by omega) 4 0 0 0 0 0 0 0 0 0 ee2 next (.fork ee2 next) (fun _ _=>rfl))
    have Hb1:=hd (Hb.out.trans hb1)
    clear hc1 hb1 g10 g11 g12
    go_wp2_with fail
    refine Hp.out.mono ?_
    rintro e w2 ⟨rfl,hc2,hb2⟩
    go_wp2
    go_roundw
    case rel=>exact⟨t+1,_,l2.length,by go_num,rfl,by omega,hc2,hd (Hb1.out.trans hb2),Hnx⟩
    case measure=>simp[intOf];omega
   ·have hte:(most-least).toNat=t:=by omega
    have H2':Hid (ll=c2/\ee=e2):=by
     have e0:=H2.out
     rw[hte,Hfk.out]at e0
     exact hd (by simpa using e0)
    obtain⟨rfl,rfl⟩:=H2'.out
    go_wp2
    go_loopw [7,10] (fun en k wr=>∃(t:Nat) (l3:List Sd) (e3:Nat),k= .int .i64 t/\en= .int .i64 e3/\t<=least.toNat/\CodeAt wr base C rf vr d l3/\Hid (Below C w wr)/\Hid (copiesD (fun d n c=>itemD rf x.3 d n c) d t ee ll=(l3,e3))) (fun _ k _=>(least-intOf k).toNat)
    case atStart=>exact⟨0,ll,ee,rfl,rfl,Nat.zero_le _,hcr,Hb,hd rfl⟩
    case round=>
     clear g10 g11 g12 hcr Hb
     obtain⟨t2,l3,e3,rfl,rfl,ht2,hcr,Hb,Hcp⟩:=hrel
     obtain⟨g10,g11,g12⟩:=Hcells.out wr Hb.out
     by_cases hlt2:(t2:Int)<least
     ·obtain⟨l4,e4,hg⟩:∃l4 e4,itemD rf x.3 d e3 l3=(l4,e4):=⟨_,_,rfl⟩
      have hnx:copiesD (fun d n c=>itemD rf x.3 d n c) d (t2+1) ee ll=(l4,e4):=by
       rw[copiesD,Hcp.out]
       exact hg
      have hl2:=Hln2.out (t2+1) (by omega)
      rw[hnx]at hl2
      have Hc1:=hd (Hrow.out wr l3 e3 (HF.out.below HC.out Hb.out) hcr (by rw[hg];exact hl2))
      rw[hg]at Hc1
      simp only at Hc1
      have Hnx:=hd hnx
      clear hnx hg hcr
      go_wp2_with fail
      refine Hc1.out.mono ?_
      rintro e w1 ⟨rfl,hc1,hb1⟩
      go_wp2
      go_roundw
      case rel=>exact⟨t2+1,l4,e4,by go_num,rfl,by omega,hc1,hd (Hb.out.trans hb1),Hnx⟩
      case measure=>simp[intOf];omega
     ·have hte2:least.toNat=t2:=by omega
      go_wp2
      go_ret
      have e0:=Hr.out
      rw[hte2,Hcp.out]at e0
      rw[<-e0]
      exact⟨rfl,hcr,Hb.out⟩
end Go.Proofs.YtldiemjlpnachaaGreatDoor
namespace Go.Proofs.YtldiemjlpnachaaGreatDoor
open Go.RowKit
theorem citem_step{rf:List Nat}{vr:Value}(hrl:rf.length<=2)(H:Fins)(dp:Nat)(ih:ItemBuilt rf vr H dp)(hRB:RepBuilt rf vr H (dp+1)):ItemBuilt rf vr H (dp+1):=by
 intro w base C d cs g o cells it next hF hHC hc hgC hcs hok hbk hsz hdsz hlen
 have hok0:=hok
 have hcs0:=hcs
 obtain⟨a,num,least,most,ra,rn,rc,rfl,hk0,hk1,_,_,hcase⟩:=hok
 have h0:w.cell? ⟨g,o,none⟩=some (.int .i64 it.1):=hcs 0 _ rfl
 have h9:w.cell? ⟨g,o+9,none⟩=some (.int .i64 num):=hcs 9 _ rfl
 have h12:w.cell? ⟨g,o+12,none⟩=some (.slice ra rn rc):=hcs 12 _ rfl
 obtain⟨kd,sz,tr⟩:=it
 simp only at*
 have hcn:cs.length<=1000:=Nat.le_trans (itemD_len rf tr d next cs) hlen
 rcases hcase with⟨rfl,its,hR,hsx,n,rfl,rfl⟩|⟨rfl,hl0,hl1,hm0,hm1,x,hR,_,rfl,_⟩|⟨hn4,hn5,_,hp⟩
 ·have hrs:=row_sz hR (by omega)
  simp only[bks]at hbk
  have Hc:=hd (cgroup_any hrl H dp ih w base C d cs g o n ra rn rc next its hF hHC hc hgC h9 h12 hR hbk (fun x hx=>by have:=hrs.2.2 x hx;omega) hlen)
  clear ih hF hcs hcs0 hok0 hR h9 h12 hc hHC hlen hbk hrs hsx hRB
  obtain⟨ll,ee,hre⟩:∃ll ee,itemD rf (.grp n (its.map (·.3))) d next cs=(ll,ee):=⟨_,_,rfl⟩
  rw[hre]at Hc ⊢
  simp only at Hc ⊢
  clear hre
  go_enter Tryz.func46,Tryz.ntmps46
  go_wp2_with (go_at_call 68;refine Hc.out.mono ?_;rintro e w' ⟨rfl,hc2,hb2⟩)
  go_ret
  exact⟨rfl,hc2,hb2⟩
 ·have Hc:=hd (hRB w base C d cs g o _ _ next hF hHC hc hgC hcs0 hok0 rfl hbk hsz hdsz hlen)
  clear ih hF hcs hcs0 hok0 hR h9 h12 hc hHC hlen hbk hRB
  simp only at Hc
  obtain⟨ll,ee,hre⟩:∃ll ee,itemD rf (.rep least most x.3) d next cs=(ll,ee):=⟨_,_,rfl⟩
  rw[hre]at Hc ⊢
  simp only at Hc ⊢
  clear hre
  go_enter Tryz.func46,Tryz.ntmps46
  go_wp2_with (go_at_call 69;refine Hc.out.mono ?_;rintro e w' ⟨rfl,hc2,hb2⟩)
  go_ret
  exact⟨rfl,hc2,hb2⟩
 ·rcases hp with⟨rfl,f,rfl,hf⟩|⟨rfl,rfl⟩|⟨rfl,rfl⟩|⟨rfl,n,rfl,rfl⟩
  ·have s1:w.cell? ⟨g,o+1,none⟩=some (.int .u32 (a 0)):=hcs 1 _ rfl
   have s2:w.cell? ⟨g,o+2,none⟩=some (.int .u32 (a 1)):=hcs 2 _ rfl
   have s3:w.cell? ⟨g,o+3,none⟩=some (.int .u32 (a 2)):=hcs 3 _ rfl
   have s4:w.cell? ⟨g,o+4,none⟩=some (.int .u32 (a 3)):=hcs 4 _ rfl
   have s5:w.cell? ⟨g,o+5,none⟩=some (.int .u32 (a 4)):=hcs 5 _ rfl
   have s6:w.cell? ⟨g,o+6,none⟩=some (.int .u32 (a 5)):=hcs 6 _ rfl
   have s7:w.cell? ⟨g,o+7,none⟩=some (.int .u32 (a 6)):=hcs 7 _ rfl
   have s8:w.cell? ⟨g,o+8,none⟩=some (.int .u32 (a 7)):=hcs 8 _ rfl
   have Hc:=hd (put_c hc hcn 1 (a 0) (a 1) (a 2) (a 3) (a 4) (a 5) (a 6) (a 7) 0 next 0 (.one f next) (fun _ _=>⟨a,rfl,hf⟩))
   simp only[itemD]
   clear ih hF hcs hcs0 hok0 h9 h12 hc hHC hlen hf hRB hbk
   go_enter Tryz.func46,Tryz.ntmps46
   go_wp2_with (go_at_call 25;refine Hc.out.mono ?_;rintro e w' ⟨rfl,hc2,hb2⟩)
   go_ret
   exact⟨rfl,hc2,hb2⟩
  ·have Hc:=hd (put_c hc hcn 2 0 0 0 0 0 0 0 0 0 next 0 (.beg next) (fun _ _=>rfl))
   simp only[itemD]
   clear ih hF hcs hcs0 hok0 h9 h12 hc hHC hlen hRB hbk
   go_enter Tryz.func46,Tryz.ntmps46
   go_wp2_with (go_at_call 25;refine Hc.out.mono ?_;rintro e w' ⟨rfl,hc2,hb2⟩)
   go_ret
   exact⟨rfl,hc2,hb2⟩
  ·have Hc:=hd (put_c hc hcn 3 0 0 0 0 0 0 0 0 0 next 0 (.fin next) (fun _ _=>rfl))
   simp only[itemD]
   clear ih hF hcs hcs0 hok0 h9 h12 hc hHC hlen hRB hbk
   go_enter Tryz.func46,Tryz.ntmps46
   go_wp2_with (go_at_call 25;refine Hc.out.mono ?_;rintro e w' ⟨rfl,hc2,hb2⟩)
   go_ret
   exact⟨rfl,hc2,hb2⟩
  ·simp only[bks]at hbk
   have Hslot:=hd (slot_any (n:=n) hc.c4 hc.rf hrl _ rfl)
   have es:slotV rf n=((rf.idxOf n:Nat):Int):=by unfold slotV;rw[if_pos hbk]
   rw[es]at Hslot
   simp only[itemD]
   generalize rf.idxOf n=sl at*
   have Hc:=hd (put_c hc hcn 7 0 0 0 0 0 0 0 0 sl next 0 (.bck sl next) (fun _ _=>rfl))
   clear ih hF hcs hcs0 hok0 h12 hc hHC hlen hRB hbk es
   go_enter Tryz.func46,Tryz.ntmps46
   go_wp2_with fail
   refine Hslot.out.mono ?_
   rintro e w' ⟨rfl,hww⟩
   subst w'
   go_wp2_with fail
   refine Hc.out.mono ?_
   rintro e w' ⟨rfl,hc2,hb2⟩
   go_wp2
   go_ret
   exact⟨rfl,hc2,hb2⟩
theorem cboth{rf:List Nat}{vr:Value}(hrl:rf.length<=2)(H:Fins):∀dp,ItemBuilt rf vr H dp/\RepBuilt rf vr H dp
 |0=>⟨fun _ _ _ _ _ _ _ _ _ _ _ _ _ _ _ h=>h.elim,fun _ _ _ _ _ _ _ _ _ _ _ _ _ _ _ h=>h.elim⟩
 |dp+1=>by
  obtain⟨h1,h2⟩:=cboth hrl H dp
  have h3:=crep_step H dp h1 h2
  exact⟨citem_step hrl H dp h1 h3,h3⟩
theorem beyD_le{g:Lay}{s:Nat}(hg:∀d n c,(g d n c).1.length<=c.length+s)(p:Bool)(d n:Nat)(c:List Sd):(beyD p g d n c).1.length<=c.length+(s+1):=by
 unfold beyD
 split
 ·have:=hg d n c;omega
 ·have:=hg (d+1) c.length (c++ [(.gain n,d+1)])
  simp only[List.length_append,List.length_singleton]at this
  omega
theorem loopD_le{g:Lay}{s:Nat}(hg:∀d n c,(g d n c).1.length<=c.length+s)(d n:Nat)(c:List Sd):(loopD g d n c).1.length<=c.length+(s+1):=by
 unfold loopD
 have:=hg d c.length (c++ [(.fork 0 n,d)])
 simp only[List.length_set,List.length_append,List.length_singleton]at this ⊢
 omega
theorem forksD_le{g:Lay}{s:Nat}(hg:∀d n c,(g d n c).1.length<=c.length+s)(d n e:Nat)(c:List Sd):∀t,(forksD g d n t e c).1.length<=c.length+t*(s+1)
 |0=>by simp[forksD]
 |t+1=>by
  have h1:=forksD_le hg d n e c t
  have h2:=hg d (forksD g d n t e c).2 (forksD g d n t e c).1
  rw[forksD]
  simp only[List.length_append,List.length_singleton]
  have:(t+1)*(s+1)=t*(s+1)+(s+1):=by rw[Nat.add_mul,Nat.one_mul]
  omega
theorem copiesD_le{g:Lay}{s:Nat}(hg:∀d n c,(g d n c).1.length<=c.length+s)(d e:Nat)(c:List Sd):∀t,(copiesD g d t e c).1.length<=c.length+t*s
 |0=>by simp[copiesD]
 |t+1=>by
  have h1:=copiesD_le hg d e c t
  have h2:=hg d (copiesD g d t e c).2 (copiesD g d t e c).1
  rw[copiesD]
  have:(t+1)*s=t*s+s:=by rw[Nat.add_mul,Nat.one_mul]
  omega
theorem repD_le{g:Lay}{s:Nat}(hg:∀d n c,(g d n c).1.length<=c.length+s)(p:Bool)(a b:Int)(hl:0<=a/\a<=20)(hm: -1<=b/\b<=20)(hlm:b= -1\/a<=b)(d n:Nat)(c:List Sd):(repD g (beyD p g) a b d n c).1.length<=c.length+(cop a b).toNat*(s+2):=by
 have hb':=beyD_le hg p
 unfold repD
 by_cases hb:b= -1
 ·rw[if_pos hb]
  have h1:=copiesD_le hg d (loopD (beyD p g) d n c).2 (loopD (beyD p g) d n c).1 a.toNat
  have h2:=loopD_le hb' d n c
  have h3:(cop a b).toNat=a.toNat+1:=by unfold cop;rw[if_pos hb];split<;>omega
  rw[h3,Nat.add_mul,Nat.one_mul]
  have h4:a.toNat*s<=a.toNat*(s+2):=Nat.mul_le_mul_left _ (by omega)
  omega
 ·rw[if_neg hb]
  have h1:=copiesD_le hg d (forksD (beyD p g) d n (b-a).toNat n c).2 (forksD (beyD p g) d n (b-a).toNat n c).1 a.toNat
  have h2:=forksD_le hb' d n n c (b-a).toNat
  have h3:b.toNat<=(cop a b).toNat:=by unfold cop;rw[if_neg hb];split<;>omega
  have h4:a.toNat*s<=a.toNat*(s+2):=Nat.mul_le_mul_left _ (by omega)
  have h5:(b-a).toNat*(s+2)+a.toNat*(s+2)=b.toNat*(s+2):=by rw[<-Nat.add_mul];congr 1;omega
  have h6:b.toNat*(s+2)<=(cop a b).toNat*(s+2):=Nat.mul_le_mul_right _ h3
  have h7:s+1+1=s+2:=rfl
  rw[h7]at h2
  omega
def StepsLe(rf:List Nat)(H:Fins)(dp:Nat):Prop:=∀cs (it:It),ItemOk H dp cs it->it.2<=200->1<=it.2/\∀d n c,((itemD rf it.3 d n c).1.length:Int)<=c.length+(3*it.2-2)
theorem rows_le{rf:List Nat}{H:Fins}{dp:Nat}(ih:StepsLe rf H dp):∀its:List It,(∀i (h:i<its.length),∃c,ItemOk H dp c its[i])->(∀x∈its.map (·.2),x<=200)->∀d n c,((rowD rf (its.map (·.3)) d n c).1.length:Int)<=c.length+3*sumSz (its.map (·.2))
 | [],_,_,d,n,c=>by simp[rowD,sumSz]
 |x::r,h1,h2,d,n,c=>by
  simp only[List.map_cons,rowD,sumSz]
  have hr:=rows_le ih r (fun i hi=>by have:=h1 (i+1) (by simp;omega);simpa using this) (fun y hy=>h2 y (by rw[List.map_cons];exact List.mem_cons_of_mem _ hy)) d n c
  obtain⟨cc,hx⟩:=h1 0 (by simp)
  have hx2:=(ih cc x hx (h2 x.2 (by simp))).2 d (rowD rf (r.map (·.3)) d n c).2 (rowD rf (r.map (·.3)) d n c).1
  omega
theorem row_steps'{rf:List Nat}{H:Fins}{dp:Nat}(ih:StepsLe rf H dp){ra:Option Addr}{rn:Nat}{its:List It}(hR:RowFin (ItemOk H dp) H ra rn its)(hs:rowSz (its.map (·.2))<=200):1<=rowSz (its.map (·.2))/\∀d n c,((rowD rf (its.map (·.3)) d n c).1.length:Int)<=c.length+3*(rowSz (its.map (·.2))-1):=by
 obtain⟨e,h1,h2⟩:=row_sz hR hs
 rw[e]at hs ⊢
 refine⟨by omega,fun d n c=>?_⟩
 have:=rows_le ih its (rowOk hR) (fun y hy=>by obtain⟨z,hz,rfl⟩:=List.mem_map.1 hy;have:=h2 z hz;omega) d n c
 omega
theorem item_steps(rf:List Nat)(H:Fins):∀dp,StepsLe rf H dp
 |0=>fun _ _ h _=>h.elim
 |dp+1=>by
  intro cs it hok hsz
  have ih:=item_steps rf H dp
  obtain⟨a,num,least,most,ra,rn,rc,rfl,hk0,hk1,_,_,hcase⟩:=hok
  obtain⟨kd,sz,tr⟩:=it
  simp only at*
  rcases hcase with⟨rfl,its,hR,rfl,n,_,rfl⟩|⟨rfl,hl0,hl1,hm0,hm1,x,hR,rfl,rfl,hlm⟩|⟨hn4,hn5,rfl,hp⟩
  ·obtain⟨h1,h2⟩:=row_steps' ih hR (by omega)
   refine⟨by omega,fun d n2 c=>?_⟩
   simp only[itemD]
   split
   ·have:=h2 d c.length (c++ [(.shut (rf.idxOf n) n2,d)])
    simp only[List.length_append,List.length_singleton]at this ⊢
    omega
   ·have:=h2 d n2 c
    omega
  ·obtain⟨c,hx⟩:=rowOk hR 0 (by simp)
   simp only[List.getElem_cons_zero]at hx
   have hcb:=cop_bd least most ⟨hl0,hl1⟩ ⟨hm0,hm1⟩
   have hx0:=hx.bd.1
   unfold repSz at hsz ⊢
   by_cases hb:201<1+cop least most*x.2
   ·rw[if_pos hb]at hsz;omega
   ·rw[if_neg hb]at hsz ⊢
    have hxle:x.2<=cop least most*x.2:=by
     have:=Int.mul_le_mul_of_nonneg_right hcb.1 hx0
     omega
    obtain⟨i1,i2⟩:=ih c x hx (by omega)
    refine⟨by omega,fun d n c=>?_⟩
    simp only[itemD]
    split
    ·have:=i2 d n c
     omega
    have hg:∀d n c,((fun d n c=>itemD rf x.3 d n c) d n c).1.length<=c.length+(3*x.2-2).toNat:=fun d n c=>by
     have:=i2 d n c
     show(itemD rf x.3 d n c).1.length<=_
     omega
    have h1:=repD_le hg (rf.isEmpty||hasB x.3) least most ⟨hl0,hl1⟩ ⟨hm0,hm1⟩ hlm d n c
    have h2:(((cop least most).toNat*((3*x.2-2).toNat+2):Nat):Int)=3*(cop least most*x.2):=by
     rw[Int.natCast_mul,show(((3*x.2-2).toNat+2:Nat):Int)=3*x.2 by omega,show((cop least most).toNat:Int)=cop least most by omega,Int.mul_left_comm]
    have h3:((repD (fun d n c=>itemD rf x.3 d n c) (beyD (rf.isEmpty||hasB x.3) (fun d n c=>itemD rf x.3 d n c)) least most d n c).1.length:Int)<=(c.length:Int)+3*(cop least most*x.2):=by
     rw[<-h2]
     exact_mod_cast h1
    omega
  ·refine⟨by omega,fun d n c=>?_⟩
   rcases hp with⟨rfl,f,rfl,hf⟩|⟨rfl,rfl⟩|⟨rfl,rfl⟩|⟨rfl,n,_,rfl⟩
   all_goals simp[itemD]
theorem row_steps(rf:List Nat)(H:Fins)(dp:Nat)(ra:Option Addr)(rn:Nat)(its:List It)(hR:RowFin (ItemOk H dp) H ra rn its)(hs:rowSz (its.map (·.2))<=200)(d n:Nat)(c:List Sd):(rowD rf (its.map (·.3)) d n c).1.length<=c.length+600:=by
 have:=(row_steps' (item_steps rf H dp) hR hs).2 d n c
 omega
def CodeIn(w0 w:World)(v:Value)(cs:List Sd):Prop:=(∃css,w.ownsRow w0.heap.size 95 14 v cs.length css.flatten/\SdsOk css cs)/\∀x∈cs,x.2<=300
def BuildOut(w w':World)(rf:List Nat)(its:List It)(e:Ending):Prop:=
 Below w.heap.size w w'/\∃v,e= .returned (.agg #[v,.int .i64 (buildD rf (its.map (·.3))).2,.int .i64 rf.length,.int .i64 (levs ((buildD rf (its.map (·.3))).1.map Prod.snd))])/\CodeIn w w' v (buildD rf (its.map (·.3))).1
theorem owns_lower{w:World}{base b e size:Nat}{v:Value}{n:Nat}{xs:List Value}(h:w.ownsRow base e size v n xs)(hb:b<=base):w.ownsRow b e size v n xs:=by
 refine⟨h.1,?_⟩
 rcases h.2 with h2|⟨g,cap,cur,h1,h2,h3⟩
 ·exact .inl h2
 ·exact .inr ⟨g,cap,cur,h1,Nat.le_trans hb h2,h3⟩
theorem frozen_blk{w:World}{g i:Nat}{cur:Array Value}{e:TypeId}(h:w.heap[g]?=some (.cells cur e (0,0))):w.frozen? ⟨g,i,none⟩=false:=by simp[World.frozen?,h]
theorem code_start(w:World)(ra fa:Option Addr)(rn rc gr fc:Nat)(rf:List Nat)(hrf:RefsAt w w.heap.size (.slice fa rf.length fc) rf):CodeAt (((w.alloc (.cells #[.slice ra rn rc,.int .i64 gr,.slice fa rf.length fc] 50)).alloc (.cells #[.slice none 0 0,.int .i64 0,.int .i64 0,.int .i64 0] 55)).alloc (.cells #[.slice none 0 0,.int .i64 0,.int .i64 rf.length,.int .i64 0,.slice fa rf.length fc,.int .i64 0] 87)) (w.heap.size+3) (w.heap.size+1+1) rf (.slice fa rf.length fc) 0 []:=by
 have hz:((w.alloc (.cells #[.slice ra rn rc,.int .i64 gr,.slice fa rf.length fc] 50)).alloc (.cells #[.slice none 0 0,.int .i64 0,.int .i64 0,.int .i64 0] 55)).heap.size=w.heap.size+1+1:=by simp
 have cl:∀(i:Nat) v,(#[Value.slice none 0 0,.int .i64 0,.int .i64 rf.length,.int .i64 0,.slice fa rf.length fc,.int .i64 0]:Array Value)[i]?=some v->(((w.alloc (.cells #[.slice ra rn rc,.int .i64 gr,.slice fa rf.length fc] 50)).alloc (.cells #[.slice none 0 0,.int .i64 0,.int .i64 0,.int .i64 0] 55)).alloc (.cells #[.slice none 0 0,.int .i64 0,.int .i64 rf.length,.int .i64 0,.slice fa rf.length fc,.int .i64 0] 87)).cell? ⟨w.heap.size+1+1,i,none⟩=some v:=by
  intro i v hv
  have hh:=heap_alloc_new ((w.alloc (.cells #[.slice ra rn rc,.int .i64 gr,.slice fa rf.length fc] 50)).alloc (.cells #[.slice none 0 0,.int .i64 0,.int .i64 0,.int .i64 0] 55)) (.cells #[.slice none 0 0,.int .i64 0,.int .i64 rf.length,.int .i64 0,.slice fa rf.length fc,.int .i64 0] 87)
  rw[hz]at hh
  rw[cell_of_row _ _ _ _ _ _ hh]
  exact hv
 have fzz:∀i,(((w.alloc (.cells #[.slice ra rn rc,.int .i64 gr,.slice fa rf.length fc] 50)).alloc (.cells #[.slice none 0 0,.int .i64 0,.int .i64 0,.int .i64 0] 55)).alloc (.cells #[.slice none 0 0,.int .i64 0,.int .i64 rf.length,.int .i64 0,.slice fa rf.length fc,.int .i64 0] 87)).frozen? ⟨w.heap.size+1+1,i,none⟩=false:=by
  intro i
  have hh:=heap_alloc_new ((w.alloc (.cells #[.slice ra rn rc,.int .i64 gr,.slice fa rf.length fc] 50)).alloc (.cells #[.slice none 0 0,.int .i64 0,.int .i64 0,.int .i64 0] 55)) (.cells #[.slice none 0 0,.int .i64 0,.int .i64 rf.length,.int .i64 0,.slice fa rf.length fc,.int .i64 0] 87)
  rw[hz]at hh
  exact frozen_blk hh
 have hb:Below w.heap.size w (((w.alloc (.cells #[.slice ra rn rc,.int .i64 gr,.slice fa rf.length fc] 50)).alloc (.cells #[.slice none 0 0,.int .i64 0,.int .i64 0,.int .i64 0] 55)).alloc (.cells #[.slice none 0 0,.int .i64 0,.int .i64 rf.length,.int .i64 0,.slice fa rf.length fc,.int .i64 0] 87)):=(((Below.refl _ _).alloc (Nat.le_refl _) _).alloc (by simp) _).alloc (by simp;omega) _
 refine⟨by omega,by simp,fun i _=>fzz i,⟨_,cl 1 _ rfl⟩,cl 2 _ rfl,cl 3 _ rfl,cl 4 _ rfl,cl 5 _ rfl,?_,by omega,fun x hx=>by simp at hx,.slice none 0 0,[],cl 0 _ rfl,World.ownsRow_nil _ _ _ _,SdsOk.nil⟩
 obtain⟨ao,cp,e,h⟩:=hrf.below hb
 exact⟨ao,cp,e,fun i hi=>by obtain⟨g,h1,h2,h3⟩:=h i hi;exact⟨g,h1,by omega,h3⟩⟩
theorem build_any(H:Fins)(dp:Nat)(w:World)(ra:Option Addr)(rn rc gr:Nat)(fa:Option Addr)(fc:Nat)(rf:List Nat)(its:List It)(hF:Fin w H)(hR:RowFin (ItemOk H dp) H ra rn its)(hs:rowSz (its.map (·.2))<=200)(hbk:bkss rf (its.map (·.3)))(hrl:rf.length<=2)(hrf:RefsAt w w.heap.size (.slice fa rf.length fc) rf):
  Calls Tryz.prog 14 #[.agg #[.slice ra rn rc,.int .i64 gr,.slice fa rf.length fc]] w fun e w'=>BuildOut w w' rf its e:=by
 have hst:=row_steps rf H dp ra rn its hR hs 0 0 [(.done,0)]
 simp only[List.length_singleton]at hst
 unfold BuildOut buildD
 have Hrow:=hd (fun w1 (hF1:Fin w1 H) (hc1:CodeAt w1 (w.heap.size+3) (w.heap.size+1+1) rf (.slice fa rf.length fc) 0 [(.done,0)])=>crow_any H dp (cboth hrl H dp).1 w1 (w.heap.size+3) (w.heap.size+1+1) 0 [(.done,0)] ra rn rc 0 its hF1 (fun g arr hg=>by have:=hF.lt hg;omega) hc1 hR hbk (fun x hx=>by have:=row_sz hR hs;have:=this.2.2 x hx;omega) (by omega))
 generalize rowD rf (its.map (·.3)) 0 0 [(.done,0)]=z at Hrow hst ⊢
 have HF:=hd hF
 have hc0:=code_start w ra fa rn rc gr fc rf hrf
 clear hF hR hs hbk hrf
 go_enter Tryz.func14,Tryz.ntmps14
 go_wp2_with fail
 have hb0:Below w.heap.size w (((w.alloc (.cells #[.slice ra rn rc,.int .i64 gr,.slice fa rf.length fc] 50)).alloc (.cells #[.slice none 0 0,.int .i64 0,.int .i64 0,.int .i64 0] 55)).alloc (.cells #[.slice none 0 0,.int .i64 0,.int .i64 rf.length,.int .i64 0,.slice fa rf.length fc,.int .i64 0] 87)):=(((Below.refl _ _).alloc (Nat.le_refl _) _).alloc (by simp) _).alloc (by simp;omega) _
 have hT0:(((w.alloc (.cells #[.slice ra rn rc,.int .i64 gr,.slice fa rf.length fc] 50)).alloc (.cells #[.slice none 0 0,.int .i64 0,.int .i64 0,.int .i64 0] 55)).alloc (.cells #[.slice none 0 0,.int .i64 0,.int .i64 rf.length,.int .i64 0,.slice fa rf.length fc,.int .i64 0] 87)).cell? ⟨w.heap.size,0,none⟩=some (.slice ra rn rc):=by
  rw[World.cell?_alloc_lt _ _ _ (by simp;omega),World.cell?_alloc_lt _ _ _ (by simp)];simp
 have hT1:∀i,i<4->(∃u,(((w.alloc (.cells #[.slice ra rn rc,.int .i64 gr,.slice fa rf.length fc] 50)).alloc (.cells #[.slice none 0 0,.int .i64 0,.int .i64 0,.int .i64 0] 55)).alloc (.cells #[.slice none 0 0,.int .i64 0,.int .i64 rf.length,.int .i64 0,.slice fa rf.length fc,.int .i64 0] 87)).cell? ⟨w.heap.size+1,i,none⟩=some u)/\(((w.alloc (.cells #[.slice ra rn rc,.int .i64 gr,.slice fa rf.length fc] 50)).alloc (.cells #[.slice none 0 0,.int .i64 0,.int .i64 0,.int .i64 0] 55)).alloc (.cells #[.slice none 0 0,.int .i64 0,.int .i64 rf.length,.int .i64 0,.slice fa rf.length fc,.int .i64 0] 87)).frozen? ⟨w.heap.size+1,i,none⟩=false:=by
  intro i hi
  have hh:=heap_alloc_new (w.alloc (.cells #[.slice ra rn rc,.int .i64 gr,.slice fa rf.length fc] 50)) (.cells #[.slice none 0 0,.int .i64 0,.int .i64 0,.int .i64 0] 55)
  rw[show(w.alloc (.cells #[.slice ra rn rc,.int .i64 gr,.slice fa rf.length fc] 50)).heap.size=w.heap.size+1 by simp]at hh
  have hh2:(((w.alloc (.cells #[.slice ra rn rc,.int .i64 gr,.slice fa rf.length fc] 50)).alloc (.cells #[.slice none 0 0,.int .i64 0,.int .i64 0,.int .i64 0] 55)).alloc (.cells #[.slice none 0 0,.int .i64 0,.int .i64 rf.length,.int .i64 0,.slice fa rf.length fc,.int .i64 0] 87)).heap[w.heap.size+1]?=_:=(Below.heap_alloc _ _ _ (by simp)).trans hh
  refine⟨?_,frozen_blk hh2⟩
  rw[cell_of_row _ _ _ _ _ _ hh2]
  rcases(show i=0\/i=1\/i=2\/i=3 by omega)with rfl|rfl|rfl|rfl<;>exact⟨_,rfl⟩
 generalize ((w.alloc (.cells #[.slice ra rn rc,.int .i64 gr,.slice fa rf.length fc] 50)).alloc (.cells #[.slice none 0 0,.int .i64 0,.int .i64 0,.int .i64 0] 55)).alloc (.cells #[.slice none 0 0,.int .i64 0,.int .i64 rf.length,.int .i64 0,.slice fa rf.length fc,.int .i64 0] 87)=W0 at hb0 hT0 hT1 hc0 ⊢
 refine(put_c hc0 (by simp) 0 0 0 0 0 0 0 0 0 0 0 0 .done (fun _ _=>rfl)).mono ?_
 rintro e w1 ⟨rfl,hc1,hb1⟩
 simp only[List.nil_append,List.length_nil]at hc1 ⊢
 have hb01:=hb0.trans (hb1.mono (by omega))
 have Hcall:=hd (Hrow.out w1 (HF.out.below (fun g arr hg=>HF.out.lt hg) hb01) hc1)
 have x0:w1.cell? ⟨w.heap.size,0,none⟩=some (.slice ra rn rc):=(hb1.cell (by simp;omega)).trans hT0
 have HT:=hd hT1
 have Hb1:=hd hb1
 have Hb01:=hd hb01
 clear hc0 hb0 hb1 hc1 hT0 hb01 hT1
 go_wp2_with fail
 refine Hcall.out.mono ?_
 rintro e w2 ⟨rfl,hc2,hb2⟩
 obtain⟨u1,hu1⟩:=hc2.c1
 have f1:=hc2.fz 1 (by omega)
 have c2:=hc2.c2
 have c3:=hc2.c3
 obtain⟨v,css,h4,hown,hcs⟩:=hc2.rows
 obtain⟨ao,cp,rfl⟩:=owns_shape hown
 have tt:∀i,i<4->(∃u,w2.cell? ⟨w.heap.size+1,i,none⟩=some u)/\w2.frozen? ⟨w.heap.size+1,i,none⟩=false:=fun i hi=>by
  obtain⟨⟨u,hu⟩,hf⟩:=HT.out i hi
  exact⟨⟨u,(hb2.cell (by simp)).trans ((Hb1.out.cell (by simp)).trans hu)⟩,(hb2.frozen (by simp)).trans ((Hb1.out.frozen (by simp)).trans hf)⟩
 obtain⟨⟨t0,ht0⟩,q0⟩:=tt 0 (by omega)
 obtain⟨⟨t1,ht1⟩,q1⟩:=tt 1 (by omega)
 obtain⟨⟨t2,ht2⟩,q2⟩:=tt 2 (by omega)
 obtain⟨⟨t3,ht3⟩,q3⟩:=tt 3 (by omega)
 have HC2:=hd hc2
 have Hb2:=hd (Hb01.out.trans (hb2.mono (by omega)))
 have Hown:=hd hown
 have Hcs:=hd hcs
 have Hdl:=hd hc2.dl
 clear hc2 hb2 hown hcs tt x0 Hrow HT Hcall
 go_wp2
 refine bodyPost_ret (v:= .agg #[.slice ao z.1.length cp,.int .i64 z.2,.int .i64 rf.length,.int .i64 (levs (z.1.map Prod.snd))]) (by simp[results,Tryz.results14,go_sem,ht0,ht1,ht2,ht3]) rfl ⟨?_,_,rfl,?_⟩
 ·exact((((Hb2.out.setCell (by simp;omega) _).setCell (by simp) _).setCell (by simp) _).setCell (by simp) _).setCell (by simp) _
 ·refine⟨⟨css,owns_lower (base:=w.heap.size+3) ?_ (by omega),Hcs.out⟩,Hdl.out⟩
  have hne:∀k,(Value.slice ao z.1.length cp).ownBlock=some k->w.heap.size+3<=k:=fun k hk=>(Hown.out.lt k hk).1
  refine ownsRow_setCell_other (ownsRow_setCell_other (ownsRow_setCell_other (ownsRow_setCell_other (ownsRow_setCell_other Hown.out (fun e=>?_) _) (fun e=>?_) _) (fun e=>?_) _) (fun e=>?_) _) (fun e=>?_) _
  all_goals
   have:=hne _ e
   simp at this
   try omega
end Go.Proofs.YtldiemjlpnachaaGreatDoor

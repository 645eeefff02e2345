import Derived.Test.YtldiemjlpnachaaGreatDoorBck
import Derived.Laws.MakeOwn
set_option maxHeartbeats 6400000
set_option maxRecDepth 100000
namespace Go.Proofs.YtldiemjlpnachaaGreatDoor
open Go.RowKit
theorem info_places:(Tryz.prog.info? 171).map (fun i=>(i.zero,i.size,i.bytes))=some (some (.int .u32 0),1,4):=by kernel_rfl
def mkP(n:Nat):Array Value:=madeCells (Value.int .u32 0).cells (n*1)
theorem mkP_get{n i:Nat}(h:i<n):(mkP n)[i]?=some (.int .u32 0):=by
 unfold mkP madeCells
 rw[Array.getElem?_map,Array.getElem?_range]
 simp[h,Value.cells,Nat.mod_one]
theorem mk_places(n:Nat)(hn:n<=301000)(w:World):(Instr.makeSlice 178 (.int .i64 n) (.int .i64 n)).run Tryz.prog w= .ok (.slice (some ⟨w.heap.size,0,none⟩) n n) (w.alloc (.cells (mkP n) 171)):=by
 obtain⟨i0,hi0,hz0,hz1,hz2⟩:=info_parts info_places
 have:=run_make (P:=Tryz.prog) w 178 171 i0 _ Tryz.underlying178 hi0 hz0 .i64 .i64 n n (by omega) (Int.le_refl _) (by rw[hz2];omega) (by omega)
 rw[hz1,Int.toNat_natCast]at this
 exact this
def Un(σ:Ss):Prop:=∀h,σ.X h=none->(∀m,σ.rc h m=0)/\σ.tp h=0/\σ.wt h=false
def metS(σ:Ss)(h:Hd)(b r:Nat):Ss:= {σ with X:=fun h'=>if h'=h then some (b,r)else σ.X h'}
theorem Mut.drew{w:World}{Δ:Cg}{σ:Ss}(m:Mut w Δ σ):Mut w.drew Δ σ:=⟨m.sz,m.mb,m.mf,fun h b r hX=>(m.st h b r hX).far (Nat.le_refl _) rfl rfl rfl rfl rfl,m.inj,m.wq,m.qx,m.c632,m.c633,m.fS⟩
theorem Mut.drewN{w:World}{Δ:Cg}{σ:Ss}{n:Nat}(m:Mut w Δ σ):Mut (w.drewN n) Δ σ:=⟨m.sz,m.mb,m.mf,fun h b r hX=>(m.st h b r hX).far (Nat.le_refl _) rfl rfl rfl rfl rfl,m.inj,m.wq,m.qx,m.c632,m.c633,m.fS⟩
theorem Mut.alloc{w:World}{Δ:Cg}{σ:Ss}(m:Mut w Δ σ)(hb:Blk Δ)(o:Obj):Mut (w.alloc o) Δ σ:=by
 have bS:=hb.bS
 have bM:=hb.bM
 have hs:=m.sz
 have cl:∀(b i:Nat),b<w.heap.size->(w.alloc o).cell? ⟨b,i,none⟩=w.cell? ⟨b,i,none⟩:=fun b i h=>World.cell?_alloc_lt _ _ _ h
 have fr:∀(b i:Nat),b<w.heap.size->(w.alloc o).frozen? ⟨b,i,none⟩=w.frozen? ⟨b,i,none⟩:=fun b i h=>World.frozen?_alloc_old _ _ _ (by show b≠_;omega)
 obtain⟨v,hv,ho,hg⟩:=m.wq
 exact⟨by simp;omega,fun h hv=>(cl _ _ (by omega)).trans (m.mb h hv),fun i=>(fr _ _ (by omega)).trans (m.mf i),fun h b r hX=>(m.st h b r hX).far (by simp) (Below.heap_alloc _ _ _ (m.st h b r hX).bb.2) (Below.heap_alloc _ _ _ (m.st h b r hX).br.2) rfl rfl rfl,m.inj,⟨v,(cl _ _ (by omega)).trans hv,ho.alloc _,hg⟩,m.qx,(cl _ _ (by omega)).trans m.c632,(cl _ _ (by omega)).trans m.c633,fun i hi=>(fr _ _ (by omega)).trans (m.fS i hi)⟩
theorem Mut.met{w:World}{Δ:Cg}{σ:Ss}(m:Mut w Δ σ)(hb:Blk Δ)(un:Un σ){h:Hd}(hv:Vh Δ h)(hX:σ.X h=none){b r:Nat}{e1 e2:TypeId}(h1:w.heap[b]?=some (.cells #[.int .i64 h.1,.int .i64 h.2,.slice (some ⟨r,0,none⟩) Δ.lv Δ.lv,.int .i64 0,.bool false] e1 (0,0)))(h2:w.heap[r]?=some (.cells (mkP Δ.lv) e2 (0,0)))(hbr:b≠r)(lb:Δ.b1<=b)(lr:Δ.b1<=r)
  (fr1:∀h' b' r',σ.X h'=some (b',r')->b≠b'/\b≠r'/\r≠b'/\r≠r')(fr2:∀v g,w.cell? ⟨Δ.S,631,none⟩=some v->v.ownBlock=some g->g≠b/\g≠r)(hinj:∀h',Vh Δ h'->ix Δ h'=ix Δ h->h'=h):
  Mut (w.setCell ⟨Δ.MB,ix Δ h,none⟩ (.pointer (some ⟨b,0,none⟩))) Δ (metS σ h b r)/\Kp w (w.setCell ⟨Δ.MB,ix Δ h,none⟩ (.pointer (some ⟨b,0,none⟩))) Δ:=by
 have bS:=hb.bS
 have bM:=hb.bM
 have nM:=hb.nM
 have blk:∀k,k≠Δ.MB->(w.setCell ⟨Δ.MB,ix Δ h,none⟩ (.pointer (some ⟨b,0,none⟩))).heap[k]?=w.heap[k]?:=fun k hk=>Below.heap_setCell _ _ _ _ hk
 have cl:∀(k i:Nat),k≠Δ.MB->(w.setCell ⟨Δ.MB,ix Δ h,none⟩ (.pointer (some ⟨b,0,none⟩))).cell? ⟨k,i,none⟩=w.cell? ⟨k,i,none⟩:=fun k i hk=>World.cell?_of_block (blk k hk)
 have b0:b≠Δ.MB:=by omega
 have r0:r≠Δ.MB:=by omega
 obtain⟨u1,u2,u3⟩:=un h hX
 obtain⟨v,hv',ho,hg⟩:=m.wq
 refine⟨⟨by simp[World.setCell];exact m.sz,fun h' hv2=>?_,fun i=>by rw[World.frozen?_setCell];exact m.mf i,fun h' b' r' hX'=>?_,fun x y b' r' b'' r'' hx hy=>?_,⟨v,(cl _ _ (Ne.symm nM)).trans hv',?_,fun g hgo h' b' r' hX'=>?_⟩,fun h' hm=>?_,(cl _ _ (Ne.symm nM)).trans m.c632,(cl _ _ (Ne.symm nM)).trans m.c633,fun i hi=>by rw[World.frozen?_setCell];exact m.fS i hi⟩,(Kp.refl w Δ).set hb _ _ (.inr rfl) _⟩
 ·show _=some (pX (if h'=h then some (b,r)else σ.X h'))
  by_cases e:h'=h
  ·rw[if_pos e,e]
   exact World.cell?_setCell_same _ _ _ (m.mb h hv)
  ·rw[if_neg e,World.cell?_setCell_other _ _ _ _ (by intro x;injection x with _ x2;exact e (hinj h' hv2 x2.symm))]
   exact m.mb h' hv2
 ·have hX'':(if h'=h then some (b,r)else σ.X h')=some (b',r'):=hX'
  by_cases e:h'=h
  ·rw[if_pos e]at hX''
   cases hX''
   subst e
   have cb:∀(i:Nat) v,(#[Value.int .i64 h'.1,.int .i64 h'.2,.slice (some ⟨r,0,none⟩) Δ.lv Δ.lv,.int .i64 0,.bool false]:Array Value)[i]?=some v->(w.setCell ⟨Δ.MB,ix Δ h',none⟩ (.pointer (some ⟨b,0,none⟩))).cell? ⟨b,i,none⟩=some v:=fun i v hv=>by
    rw[cl _ _ b0,cell_of_row _ _ _ _ _ _ h1];exact hv
   have lb':b<w.heap.size:=(Array.getElem?_eq_some_iff.1 h1).1
   have lr':r<w.heap.size:=(Array.getElem?_eq_some_iff.1 h2).1
   refine⟨hv,⟨lb,by simpa[World.setCell]using lb'⟩,⟨lr,by simpa[World.setCell]using lr'⟩,cb 0 _ rfl,cb 1 _ rfl,cb 2 _ rfl,?_,?_,fun i=>by rw[World.frozen?_setCell];exact frozen_blk h1,fun mm hm=>?_,fun i=>by rw[World.frozen?_setCell];exact frozen_blk h2,fun mm=>?_⟩
   ·show _=some (Value.int .i64 (σ.tp h'))
    rw[u2];exact cb 3 _ rfl
   ·show _=some (Value.bool (σ.wt h'))
    rw[u3];exact cb 4 _ rfl
   ·show _=some (Value.int .u32 ((σ.rc h' mm:Nat):Int))
    rw[u1,cl _ _ r0,cell_of_row _ _ _ _ _ _ h2]
    exact mkP_get hm
   ·show σ.rc h' mm<2^25
    rw[u1];decide
  ·rw[if_neg e]at hX''
   have s0:=m.st h' b' r' hX''
   have l1:=s0.bb.1
   have l2:=s0.br.1
   exact s0.far (by simp[World.setCell]) (blk b' (by omega)) (blk r' (by omega)) rfl rfl rfl
 ·have hx':(if x=h then some (b,r)else σ.X x)=some (b',r'):=hx
  have hy':(if y=h then some (b,r)else σ.X y)=some (b'',r''):=hy
  by_cases ex:x=h
  ·rw[if_pos ex]at hx'
   cases hx'
   by_cases ey:y=h
   ·rw[if_pos ey]at hy'
    cases hy'
    exact⟨fun _=>ex.trans ey.symm,fun _=>ex.trans ey.symm,hbr⟩
   ·rw[if_neg ey]at hy'
    obtain⟨f1,f2,f3,f4⟩:=fr1 y b'' r'' hy'
    exact⟨fun e=>absurd e f1,fun e=>absurd e f4,f2⟩
  ·rw[if_neg ex]at hx'
   by_cases ey:y=h
   ·rw[if_pos ey]at hy'
    cases hy'
    obtain⟨f1,f2,f3,f4⟩:=fr1 x b' r' hx'
    exact⟨fun e=>absurd e.symm f1,fun e=>absurd e.symm f4,fun e=>f3 e.symm⟩
   ·rw[if_neg ey]at hy'
    exact m.inj x y b' r' b'' r'' hx' hy'
 ·have e:(metS σ h b r).Q.map (fun h'=>pX ((metS σ h b r).X h'))=σ.Q.map fun h'=>pX (σ.X h'):=by
   apply List.map_congr_left
   intro y hy
   show pX (if y=h then some (b,r)else σ.X y)=_
   rw[if_neg (fun e=>by obtain⟨br,hbr⟩:=m.qx y hy;rw[e,hX]at hbr;cases hbr)]
  rw[e]
  exact owns_same ho (fun k hk=>blk k (by have:=(ho.lt k hk).1;omega))
 ·have hX'':(if h'=h then some (b,r)else σ.X h')=some (b',r'):=hX'
  by_cases e:h'=h
  ·rw[if_pos e]at hX''
   cases hX''
   exact fr2 v g hv' hgo
  ·rw[if_neg e]at hX''
   exact hg g hgo h' b' r' hX''
 ·obtain⟨br,hbr⟩:=m.qx h' hm
  by_cases e:h'=h
  ·exact⟨(b,r),if_pos e⟩
  ·exact⟨br,(if_neg e).trans hbr⟩
theorem ix_inj{Δ:Cg}(hk:Δ.k=1\/Δ.k=2){h h':Hd}(hv:Vh Δ h)(hv':Vh Δ h')(e:ix Δ h'=ix Δ h):h'=h:=by
 obtain⟨a1,a2,a3⟩:=hv
 obtain⟨b1,b2,b3⟩:=hv'
 unfold ix at e
 rcases hk with hk|hk
 ·rw[if_pos hk,if_pos hk]at e
  exact Prod.ext e ((b3 hk).trans (a3 hk).symm)
 ·rw[if_neg (by omega),if_neg (by omega)]at e
  have hK:0<Δ.K:=by omega
  have e1:h'.1=h.1:=by
   have:(h'.1*Δ.K+h'.2)/Δ.K=(h.1*Δ.K+h.2)/Δ.K:=by rw[e]
   rw[Nat.mul_comm,Nat.mul_add_div hK,Nat.div_eq_of_lt b2,Nat.mul_comm,Nat.mul_add_div hK,Nat.div_eq_of_lt a2]at this
   omega
  refine Prod.ext e1 ?_
  rw[e1]at e
  omega
theorem settingOf_any{w:World}{Δ:Cg}{σ:Ss}(hb:Blk Δ)(r:Rdo w Δ)(m:Mut w Δ σ)(un:Un σ){h:Hd}(hv:Vh Δ h)(hk:Δ.k=1\/Δ.k=2)(hK:Δ.K<=1000)(hroom:Δ.room=if Δ.k=1 then Δ.K else Δ.K*Δ.K)(hlb:Δ.lv<=301000):
  Calls Tryz.prog 88 #[.pointer (some ⟨Δ.S,0,none⟩),.agg #[.int .i64 h.1,.int .i64 h.2]] w fun e w'=>∃b rb,e= .returned (.pointer (some ⟨b,0,none⟩))/\(σ.X h=some (b,rb)/\Mut w' Δ σ\/σ.X h=none/\Mut w' Δ (metS σ h b rb))/\Kp w w' Δ:=by
 have s0:=r.s0
 have s629:=r.s629
 have s630:=r.s630
 have p2:=r.p2
 have p3:=r.p3
 have hmb:=m.mb h hv
 obtain⟨v1,v2,v3⟩:=hv
 have hixl:ix Δ h<Δ.room:=by
  unfold ix
  rw[hroom]
  split
  ·exact v1
  ·have:h.1*Δ.K+Δ.K<=Δ.K*Δ.K:=by
    rw[<-Nat.succ_mul]
    exact Nat.mul_le_mul_right _ v1
   omega
 rcases hk with hk|hk
 ·have eix:ix Δ h=h.1:=by unfold ix;rw[if_pos hk]
  rw[eix]at hmb hixl
  rw[hk]at p2
  have lb1:=m.sz
  have kW:=(Kp.refl w Δ).alloc hb m.sz (.cells #[.int .i64 h.1,.int .i64 h.2] 169)
  have mW:=m.alloc hb (.cells #[.int .i64 h.1,.int .i64 h.2] 169)
  have hT:(w.alloc (.cells #[.int .i64 h.1,.int .i64 h.2] 169)).cell? ⟨w.heap.size,0,none⟩=some (.int .i64 h.1)/\(w.alloc (.cells #[.int .i64 h.1,.int .i64 h.2] 169)).cell? ⟨w.heap.size,1,none⟩=some (.int .i64 h.2):=⟨by simp,by simp⟩
  have HR:=hd r
  have Hb:=hd hb
  have Hun:=hd un
  have Hv:Hid (Vh Δ h):=hd ⟨v1,v2,v3⟩
  have Hk:=hd (show Δ.k=1\/Δ.k=2 from .inl hk)
  clear hb r m un hmb s0 s629 s630 p2 p3 hroom v3
  go_enter Tryz.func88,Tryz.ntmps88
  go_wp2
  generalize w.alloc (.cells #[.int .i64 h.1,.int .i64 h.2] 169)=W at*
  go_loopg [5,6] 2 (fun f pl sl wr=>∃t:Nat,sl= .int .i64 t/\t<=1/\1<t+f/\pl= .int .i64 (if t=0 then 0 else(h.1:Int))/\Hid (Mut wr Δ σ)/\Hid (Kp w wr Δ)/\wr.cell? ⟨w.heap.size,0,none⟩=some (.int .i64 h.1)/\wr.cell? ⟨w.heap.size,1,none⟩=some (.int .i64 h.2))
  case atStart=>exact⟨0,rfl,by omega,by omega,rfl,hd mW,hd kW,hT.1,hT.2⟩
  case round=>
   obtain⟨t,rfl,ht,hf,rfl,HM,HK,t0,t1⟩:=hrel
   have hr:=HR.out.kp Hb.out HK.out
   have s0:=hr.s0
   have s629:=hr.s629
   have s630:=hr.s630
   have p2:=hr.p2
   have p3:=hr.p3
   have hmb:=HM.out.mb h Hv.out
   rw[eix]at hmb
   rw[hk]at p2
   rcases(show t=0\/t=1 by omega)with rfl|rfl
   ·go_wp2
    go_quiet (fail)
    go_wp2
    go_roundg (gk-1)
    case measure=>omega
    case rel=>exact⟨1,by go_num,by omega,by omega,by go_num,hd HM.out.drewN,hd HK.out.drewN,t0,t1⟩
   ·have hi0:(0:Int)<=(h.1:Int):=by omega
    have hi1:(h.1:Int)<(Δ.room:Int):=by omega
    cases hX:σ.X h with
    |some br=>
     obtain⟨b,rb⟩:=br
     rw[hX]at hmb
     have hmb':wr.cell? ⟨Δ.MB,h.1,none⟩=some (.pointer (some ⟨b,0,none⟩)):=hmb
     clear hmb
     have HX:=hd hX
     clear hX
     go_wp2
     go_ret
     exact⟨b,rb,rfl,.inl ⟨HX.out,HM.out⟩,HK.out⟩
    |none=>
     rw[hX]at hmb
     have hmb':wr.cell? ⟨Δ.MB,h.1,none⟩=some (.pointer none):=hmb
     clear hmb
     have HX:=hd hX
     clear hX
     have hmk:=mk_places Δ.lv hlb
     generalize hTe:w.heap.size=T at*
     have HTe:=hd hTe
     clear hTe
     have lT:=World.block_lt_of_cell? wr _ t0
     have lS:=World.block_lt_of_cell? wr _ s0
     have lP:=World.block_lt_of_cell? wr _ p3
     go_wp2
     go_region_held3 (fun w'=>w'.cell? ⟨T,0,none⟩=some (.int .i64 h.1)/\w'.cell? ⟨T,1,none⟩=some (.int .i64 h.2)/\w'.cell? ⟨Δ.S,0,none⟩=some (.pointer (some ⟨Δ.PC,Δ.o,none⟩))/\w'.cell? ⟨Δ.PC,Δ.o+3,none⟩=some (.int .i64 Δ.lv)) (go_keep) (fail)
     have m2:Mut (((wr.alloc (.cells (mkP Δ.lv) 171)).alloc (.cells #[.int .i64 h.1,.int .i64 h.2,.slice (some ⟨wr.heap.size,0,none⟩) Δ.lv Δ.lv,.int .i64 0,.bool false] 196)).drew) Δ σ:=((HM.out.alloc Hb.out _).alloc Hb.out _).drew
     have k2:Kp w (((wr.alloc (.cells (mkP Δ.lv) 171)).alloc (.cells #[.int .i64 h.1,.int .i64 h.2,.slice (some ⟨wr.heap.size,0,none⟩) Δ.lv Δ.lv,.int .i64 0,.bool false] 196)).drew) Δ:=((HK.out.alloc Hb.out (by rw[HTe.out];exact lb1) _).alloc Hb.out (by rw[HTe.out];exact lb1) _).drew
     have g1:(((wr.alloc (.cells (mkP Δ.lv) 171)).alloc (.cells #[.int .i64 h.1,.int .i64 h.2,.slice (some ⟨wr.heap.size,0,none⟩) Δ.lv Δ.lv,.int .i64 0,.bool false] 196)).drew).heap[wr.heap.size+1]?=some (.cells #[.int .i64 h.1,.int .i64 h.2,.slice (some ⟨wr.heap.size,0,none⟩) Δ.lv Δ.lv,.int .i64 0,.bool false] 196 (0,0)):=heap_alloc_at (by simp)
     have g2:(((wr.alloc (.cells (mkP Δ.lv) 171)).alloc (.cells #[.int .i64 h.1,.int .i64 h.2,.slice (some ⟨wr.heap.size,0,none⟩) Δ.lv Δ.lv,.int .i64 0,.bool false] 196)).drew).heap[wr.heap.size]?=some (.cells (mkP Δ.lv) 171 (0,0)):=(Below.heap_alloc _ _ _ (by simp)).trans (heap_alloc_new wr _)
     have hmet:=m2.met Hb.out Hun.out Hv.out HX.out g1 g2 (by omega) (by have:=HM.out.sz;omega) HM.out.sz (fun h' b' r' hX'=>by have s1:=(HM.out.st h' b' r' hX').bb.2;have s2:=(HM.out.st h' b' r' hX').br.2;omega) (fun v g hv hg=>by
      obtain⟨v',hv',ho',_⟩:=HM.out.wq
      have e:(((wr.alloc (.cells (mkP Δ.lv) 171)).alloc (.cells #[.int .i64 h.1,.int .i64 h.2,.slice (some ⟨wr.heap.size,0,none⟩) Δ.lv Δ.lv,.int .i64 0,.bool false] 196)).drew).cell? ⟨Δ.S,631,none⟩=some v':=(World.cell?_alloc_lt _ _ _ (by simp;omega)).trans ((World.cell?_alloc_lt _ _ _ lS).trans hv')
      rw[e]at hv
      cases hv
      have:=(ho'.lt g hg).2
      omega) (fun h' hv' e=>ix_inj Hk.out Hv.out hv' e)
     have r2:=HR.out.kp Hb.out k2
     have hmb2:=m2.mb h Hv.out
     rw[HX.out,eix]at hmb2
     rw[eix]at hmet
     have hmb3:(((wr.alloc (.cells (mkP Δ.lv) 171)).alloc (.cells #[.int .i64 h.1,.int .i64 h.2,.slice (some ⟨wr.heap.size,0,none⟩) Δ.lv Δ.lv,.int .i64 0,.bool false] 196)).drew).cell? ⟨Δ.MB,h.1,none⟩=some (.pointer none):=hmb2
     have mf2:=m2.mf h.1
     have s0':=r2.s0
     have s630':=r2.s630
     have Hmet:=hd hmet
     have Hk2:=hd k2
     clear hmet hmb2 m2 k2 r2 g1 g2 hmk hmb' s0 s629 s630 p2 p3 t0 t1 mW kW hT hr
     generalize hBe:wr.heap.size=B at*
     generalize ((wr.alloc (.cells (mkP Δ.lv) 171)).alloc (.cells #[.int .i64 h.1,.int .i64 h.2,.slice (some ⟨B,0,none⟩) Δ.lv Δ.lv,.int .i64 0,.bool false] 196)).drew=W2 at*
     go_wp2
     go_ret
     exact⟨B+1,B,rfl,.inr ⟨HX.out,Hmet.out.1⟩,Hk2.out.trans Hmet.out.2⟩
 ·have eix:ix Δ h=h.1*Δ.K+h.2:=by unfold ix;rw[if_neg (by omega)]
  have hqb:h.1*Δ.K<=1000000:=Nat.le_trans (Nat.mul_le_mul (Nat.le_of_lt (Nat.lt_of_lt_of_le v1 hK)) hK) (by decide)
  have hqi:(h.1:Int)*(Δ.K:Int)=((h.1*Δ.K:Nat):Int):=(Int.natCast_mul _ _).symm
  generalize h.1*Δ.K=q at*
  rw[eix]at hmb hixl
  rw[hk]at p2
  have lb1:=m.sz
  have kW:=(Kp.refl w Δ).alloc hb m.sz (.cells #[.int .i64 h.1,.int .i64 h.2] 169)
  have mW:=m.alloc hb (.cells #[.int .i64 h.1,.int .i64 h.2] 169)
  have hT:(w.alloc (.cells #[.int .i64 h.1,.int .i64 h.2] 169)).cell? ⟨w.heap.size,0,none⟩=some (.int .i64 h.1)/\(w.alloc (.cells #[.int .i64 h.1,.int .i64 h.2] 169)).cell? ⟨w.heap.size,1,none⟩=some (.int .i64 h.2):=⟨by simp,by simp⟩
  have HR:=hd r
  have Hb:=hd hb
  have Hun:=hd un
  have Hv:Hid (Vh Δ h):=hd ⟨v1,v2,v3⟩
  have Hk:=hd (show Δ.k=1\/Δ.k=2 from .inr hk)
  clear hb r m un hmb s0 s629 s630 p2 p3 hroom v3
  go_enter Tryz.func88,Tryz.ntmps88
  go_wp2
  generalize w.alloc (.cells #[.int .i64 h.1,.int .i64 h.2] 169)=W at*
  go_loopg [5,6] 3 (fun f pl sl wr=>∃t:Nat,sl= .int .i64 t/\t<=2/\2<t+f/\pl= .int .i64 (if t=0 then 0 else if t=1 then(h.1:Int)else(q:Int)+(h.2:Int))/\Hid (Mut wr Δ σ)/\Hid (Kp w wr Δ)/\wr.cell? ⟨w.heap.size,0,none⟩=some (.int .i64 h.1)/\wr.cell? ⟨w.heap.size,1,none⟩=some (.int .i64 h.2))
  case atStart=>exact⟨0,rfl,by omega,by omega,rfl,hd mW,hd kW,hT.1,hT.2⟩
  case round=>
   obtain⟨t,rfl,ht,hf,rfl,HM,HK,t0,t1⟩:=hrel
   have hr:=HR.out.kp Hb.out HK.out
   have s0:=hr.s0
   have s629:=hr.s629
   have s630:=hr.s630
   have p2:=hr.p2
   have p3:=hr.p3
   have hmb:=HM.out.mb h Hv.out
   rw[eix]at hmb
   rw[hk]at p2
   rcases(show t=0\/t=1\/t=2 by omega)with rfl|rfl|rfl
   ·go_wp2
    go_quiet (fail)
    go_wp2
    go_roundg (gk-1)
    case measure=>omega
    case rel=>exact⟨1,by go_num,by omega,by omega,by go_num,hd HM.out.drewN,hd HK.out.drewN,t0,t1⟩
   ·go_wp2
    go_quiet (fail)
    go_wp2
    go_roundg (gk-1)
    case measure=>omega
    case rel=>exact⟨2,by go_num,by omega,by omega,by go_num,hd HM.out.drewN,hd HK.out.drewN,t0,t1⟩
   ·have hi0:(0:Int)<=(q:Int)+(h.2:Int):=by omega
    have hi1:(q:Int)+(h.2:Int)<(Δ.room:Int):=by omega
    cases hX:σ.X h with
    |some br=>
     obtain⟨b,rb⟩:=br
     rw[hX]at hmb
     have hmb':wr.cell? ⟨Δ.MB,q+h.2,none⟩=some (.pointer (some ⟨b,0,none⟩)):=hmb
     clear hmb
     have HX:=hd hX
     clear hX
     go_wp2
     go_ret
     exact⟨b,rb,rfl,.inl ⟨HX.out,HM.out⟩,HK.out⟩
    |none=>
     rw[hX]at hmb
     have hmb':wr.cell? ⟨Δ.MB,q+h.2,none⟩=some (.pointer none):=hmb
     clear hmb
     have HX:=hd hX
     clear hX
     have hmk:=mk_places Δ.lv hlb
     generalize hTe:w.heap.size=T at*
     have HTe:=hd hTe
     clear hTe
     have lT:=World.block_lt_of_cell? wr _ t0
     have lS:=World.block_lt_of_cell? wr _ s0
     have lP:=World.block_lt_of_cell? wr _ p3
     go_wp2
     go_region_held3 (fun w'=>w'.cell? ⟨T,0,none⟩=some (.int .i64 h.1)/\w'.cell? ⟨T,1,none⟩=some (.int .i64 h.2)/\w'.cell? ⟨Δ.S,0,none⟩=some (.pointer (some ⟨Δ.PC,Δ.o,none⟩))/\w'.cell? ⟨Δ.PC,Δ.o+3,none⟩=some (.int .i64 Δ.lv)) (go_keep) (fail)
     have m2:Mut (((wr.alloc (.cells (mkP Δ.lv) 171)).alloc (.cells #[.int .i64 h.1,.int .i64 h.2,.slice (some ⟨wr.heap.size,0,none⟩) Δ.lv Δ.lv,.int .i64 0,.bool false] 196)).drew) Δ σ:=((HM.out.alloc Hb.out _).alloc Hb.out _).drew
     have k2:Kp w (((wr.alloc (.cells (mkP Δ.lv) 171)).alloc (.cells #[.int .i64 h.1,.int .i64 h.2,.slice (some ⟨wr.heap.size,0,none⟩) Δ.lv Δ.lv,.int .i64 0,.bool false] 196)).drew) Δ:=((HK.out.alloc Hb.out (by rw[HTe.out];exact lb1) _).alloc Hb.out (by rw[HTe.out];exact lb1) _).drew
     have g1:(((wr.alloc (.cells (mkP Δ.lv) 171)).alloc (.cells #[.int .i64 h.1,.int .i64 h.2,.slice (some ⟨wr.heap.size,0,none⟩) Δ.lv Δ.lv,.int .i64 0,.bool false] 196)).drew).heap[wr.heap.size+1]?=some (.cells #[.int .i64 h.1,.int .i64 h.2,.slice (some ⟨wr.heap.size,0,none⟩) Δ.lv Δ.lv,.int .i64 0,.bool false] 196 (0,0)):=heap_alloc_at (by simp)
     have g2:(((wr.alloc (.cells (mkP Δ.lv) 171)).alloc (.cells #[.int .i64 h.1,.int .i64 h.2,.slice (some ⟨wr.heap.size,0,none⟩) Δ.lv Δ.lv,.int .i64 0,.bool false] 196)).drew).heap[wr.heap.size]?=some (.cells (mkP Δ.lv) 171 (0,0)):=(Below.heap_alloc _ _ _ (by simp)).trans (heap_alloc_new wr _)
     have hmet:=m2.met Hb.out Hun.out Hv.out HX.out g1 g2 (by omega) (by have:=HM.out.sz;omega) HM.out.sz (fun h' b' r' hX'=>by have s1:=(HM.out.st h' b' r' hX').bb.2;have s2:=(HM.out.st h' b' r' hX').br.2;omega) (fun v g hv hg=>by
      obtain⟨v',hv',ho',_⟩:=HM.out.wq
      have e:(((wr.alloc (.cells (mkP Δ.lv) 171)).alloc (.cells #[.int .i64 h.1,.int .i64 h.2,.slice (some ⟨wr.heap.size,0,none⟩) Δ.lv Δ.lv,.int .i64 0,.bool false] 196)).drew).cell? ⟨Δ.S,631,none⟩=some v':=(World.cell?_alloc_lt _ _ _ (by simp;omega)).trans ((World.cell?_alloc_lt _ _ _ lS).trans hv')
      rw[e]at hv
      cases hv
      have:=(ho'.lt g hg).2
      omega) (fun h' hv' e=>ix_inj Hk.out Hv.out hv' e)
     have r2:=HR.out.kp Hb.out k2
     have hmb2:=m2.mb h Hv.out
     rw[HX.out,eix]at hmb2
     rw[eix]at hmet
     have hmb3:(((wr.alloc (.cells (mkP Δ.lv) 171)).alloc (.cells #[.int .i64 h.1,.int .i64 h.2,.slice (some ⟨wr.heap.size,0,none⟩) Δ.lv Δ.lv,.int .i64 0,.bool false] 196)).drew).cell? ⟨Δ.MB,q+h.2,none⟩=some (.pointer none):=hmb2
     have mf2:=m2.mf (q+h.2)
     have s0':=r2.s0
     have s630':=r2.s630
     have Hmet:=hd hmet
     have Hk2:=hd k2
     clear hmet hmb2 m2 k2 r2 g1 g2 hmk hmb' s0 s629 s630 p2 p3 t0 t1 mW kW hT hr
     generalize hBe:wr.heap.size=B at*
     generalize ((wr.alloc (.cells (mkP Δ.lv) 171)).alloc (.cells #[.int .i64 h.1,.int .i64 h.2,.slice (some ⟨B,0,none⟩) Δ.lv Δ.lv,.int .i64 0,.bool false] 196)).drew=W2 at*
     go_wp2
     go_ret
     exact⟨B+1,B,rfl,.inr ⟨HX.out,Hmet.out.1⟩,Hk2.out.trans Hmet.out.2⟩
end Go.Proofs.YtldiemjlpnachaaGreatDoor
namespace Go.Proofs.YtldiemjlpnachaaGreatDoor
open Go.RowKit
def mGo(z:Nat):Nat->Bool×Nat->Bool×Nat
 |0,s=>s
 |n+1,s=>if z.testBit n=true/\((mGo z n s).1=false\/(mGo z n s).2<n)then(true,n)else mGo z n s
def matchS(Δ:Cg)(σ:Ss)(z:Nat):Ss:= {σ with fd:=(mGo z (Δ.ln.size+1) (σ.fd,σ.to_)).1,to_:=(mGo z (Δ.ln.size+1) (σ.fd,σ.to_)).2}
theorem Mut.told{w:World}{Δ:Cg}{σ:Ss}(m:Mut w Δ σ)(hb:Blk Δ)(n:Nat):Mut ((w.setCell ⟨Δ.S,632,none⟩ (.bool true)).setCell ⟨Δ.S,633,none⟩ (.int .i64 n)) Δ {σ with fd:=true,to_:=n}/\Kp w ((w.setCell ⟨Δ.S,632,none⟩ (.bool true)).setCell ⟨Δ.S,633,none⟩ (.int .i64 n)) Δ:=by
 have bS:=hb.bS
 have nM:=hb.nM
 have blk:∀k,k≠Δ.S->((w.setCell ⟨Δ.S,632,none⟩ (.bool true)).setCell ⟨Δ.S,633,none⟩ (.int .i64 n)).heap[k]?=w.heap[k]?:=fun k hk=>by rw[Below.heap_setCell _ _ _ _ hk,Below.heap_setCell _ _ _ _ hk]
 have fr:∀(b i:Nat),((w.setCell ⟨Δ.S,632,none⟩ (.bool true)).setCell ⟨Δ.S,633,none⟩ (.int .i64 n)).frozen? ⟨b,i,none⟩=w.frozen? ⟨b,i,none⟩:=fun b i=>by rw[World.frozen?_setCell,World.frozen?_setCell]
 have cs:∀i,i≠632->i≠633->((w.setCell ⟨Δ.S,632,none⟩ (.bool true)).setCell ⟨Δ.S,633,none⟩ (.int .i64 n)).cell? ⟨Δ.S,i,none⟩=w.cell? ⟨Δ.S,i,none⟩:=fun i h1 h2=>by
  rw[World.cell?_setCell_other _ _ _ _ (by rintro e;cases e;exact h2 rfl),World.cell?_setCell_other _ _ _ _ (by rintro e;cases e;exact h1 rfl)]
 obtain⟨v,hv,ho,hg⟩:=m.wq
 refine⟨⟨by simp[World.setCell];exact m.sz,fun h hv=>by rw[World.cell?_of_block (blk _ nM)];exact m.mb h hv,fun i=>by rw[fr];exact m.mf i,fun h b r hX=>?_,m.inj,⟨v,by rw[cs 631 (by omega) (by omega)];exact hv,owns_same ho (fun k hk=>blk k (by have:=(ho.lt k hk).1;omega)),hg⟩,m.qx,?_,?_,fun i hi=>by rw[fr];exact m.fS i hi⟩,((Kp.refl w Δ).own 632 (by omega) _).own 633 (by omega) _⟩
 ·have s0:=m.st h b r hX
  have l1:=s0.bb.1
  have l2:=s0.br.1
  exact s0.far (by simp[World.setCell]) (blk b (by omega)) (blk r (by omega)) rfl rfl rfl
 ·rw[World.cell?_setCell_other _ _ _ _ (by simp)]
  exact World.cell?_setCell_same _ _ _ m.c632
 ·exact World.cell?_setCell_same _ _ _ (by rw[World.cell?_setCell_other _ _ _ _ (by simp)];exact m.c633)
theorem match_any{w:World}{Δ:Cg}{σ:Ss}(hb:Blk Δ)(r:Rdo w Δ)(m:Mut w Δ σ)(z:Nat)(hz:z<2^25)(hl:Δ.ln.size<=24):
  Calls Tryz.prog 112 #[.pointer (some ⟨Δ.S,0,none⟩),.int .u32 z] w fun e w'=>e= .returned (.tuple #[])/\Mut w' Δ (matchS Δ σ z)/\Kp w w' Δ:=by
 have HR:=hd r
 have Hb:=hd hb
 have Hz:=hd hz
 have Hm:=hd m
 clear hb r hz m
 go_enter Tryz.func112,Tryz.ntmps112
 go_wp2
 go_loopg [4] 26 (fun f pl wr=>∃(t:Nat) (fd:Bool) (to_:Nat),pl= .int .i64 t/\t<=Δ.ln.size+1/\25<t+f/\Hid (mGo z t (σ.fd,σ.to_)=(fd,to_))/\Hid (Mut wr Δ {σ with fd:=fd,to_:=to_})/\Hid (Kp w wr Δ))
 case atStart=>exact⟨0,σ.fd,σ.to_,rfl,by omega,by omega,hd rfl,hd Hm.out,hd (Kp.refl _ _)⟩
 case round=>
  obtain⟨t,fd,to_,rfl,ht,hf,HG,HM,HK⟩:=hrel
  have hr:=HR.out.kp Hb.out HK.out
  have s1:=hr.s1
  have c632:=HM.out.c632
  have c633:=HM.out.c633
  have f632:=HM.out.fS 632 (by omega)
  have f633:=HM.out.fS 633 (by omega)
  simp only at c632 c633
  clear hr
  by_cases hlt:t<Δ.ln.size+1
  ·have Hh:=hd (phas_any wr z Hz.out t t rfl (by omega) _ rfl)
   cases hbit:z.testBit t
   ·rw[hbit]at Hh
    have HN:Hid (mGo z (t+1) (σ.fd,σ.to_)=(fd,to_)):=hd (by rw[mGo,hbit];simp only[Bool.false_eq_true,false_and,if_false];exact HG.out)
    clear hbit
    go_wp2_with (go_at_call 110;refine Hh.out.mono ?_;rintro e w' ⟨rfl,rfl⟩)
    go_roundg (gk-1)
    case measure=>omega
    case rel=>exact⟨t+1,fd,to_,by go_num,by omega,by omega,HN,HM,HK⟩
   ·rw[hbit]at Hh
    by_cases hup:fd=false\/to_<t
    ·have HN:Hid (mGo z (t+1) (σ.fd,σ.to_)=(true,t)):=hd (by rw[mGo,HG.out,if_pos ⟨hbit,hup⟩])
     have MT:=HM.out.told Hb.out t
     have HMT:Hid (Mut ((wr.setCell ⟨Δ.S,632,none⟩ (.bool true)).setCell ⟨Δ.S,633,none⟩ (.int .i64 t)) Δ {σ with fd:=true,to_:=t}):=hd MT.1
     have HKT:=hd (HK.out.trans MT.2)
     clear hbit MT
     cases fd
     ·go_wp2_with (go_at_call 110;refine Hh.out.mono ?_;rintro e w' ⟨rfl,rfl⟩)
      go_roundg (gk-1)
      case measure=>omega
      case rel=>exact⟨t+1,true,t,by go_num,by omega,by omega,HN,HMT,HKT⟩
     ·have htt:(to_:Int)<(t:Int):=by
       rcases hup with h|h
       ·cases h
       ·omega
      clear hup
      go_wp2_with (go_at_call 110;refine Hh.out.mono ?_;rintro e w' ⟨rfl,rfl⟩)
      go_roundg (gk-1)
      case measure=>omega
      case rel=>exact⟨t+1,true,t,by go_num,by omega,by omega,HN,HMT,HKT⟩
    ·have HN:Hid (mGo z (t+1) (σ.fd,σ.to_)=(fd,to_)):=hd (by rw[mGo,HG.out,if_neg (fun h=>hup h.2)])
     have hfd:fd=true:=by
      cases fd
      ·exact absurd (.inl rfl) hup
      ·rfl
     subst hfd
     have htt:¬(to_:Int)<(t:Int):=by
      intro h
      exact hup (.inr (by omega))
     clear hbit hup
     go_wp2_with (go_at_call 110;refine Hh.out.mono ?_;rintro e w' ⟨rfl,rfl⟩)
     go_roundg (gk-1)
     case measure=>omega
     case rel=>exact⟨t+1,true,to_,by go_num,by omega,by omega,HN,HM,HK⟩
  ·obtain rfl:t=Δ.ln.size+1:=by omega
   have HF:Hid (Mut wr Δ (matchS Δ σ z)):=hd (by unfold matchS;rw[HG.out];exact HM.out)
   go_wp2
   go_end0
   exact⟨rfl,HF.out,HK.out⟩
end Go.Proofs.YtldiemjlpnachaaGreatDoor
namespace Go.Proofs.YtldiemjlpnachaaGreatDoor
open Go.RowKit
theorem SdAt.cells{w:World}{G q f:Nat}{x:Sk}{d:Nat}(h:SdAt w G q f (x,d)):∃(k sl nx ot:Int),w.cell? ⟨G,q*14,none⟩=some (.int .i64 k)/\w.cell? ⟨G,q*14+9,none⟩=some (.int .i64 sl)/\w.cell? ⟨G,q*14+10,none⟩=some (.int .i64 nx)/\w.cell? ⟨G,q*14+11,none⟩=some (.int .i64 ot)/\w.cell? ⟨G,q*14+12,none⟩=some (.int .i64 d)/\w.cell? ⟨G,q*14+13,none⟩=some (.int .i64 f)/\
  (match x with
   | .done=>k=0
   | .one _ n=>k=1/\nx=n
   | .beg n=>k=2/\nx=n
   | .fin n=>k=3/\nx=n
   | .fork n o=>k=4/\nx=n/\ot=o
   | .opn s n=>k=5/\sl=s/\nx=n
   | .shut s n=>k=6/\sl=s/\nx=n
   | .bck s n=>k=7/\sl=s/\nx=n
   | .gain n=>k=8/\nx=n):=by
 obtain⟨c,hc,hcell⟩:=h
 cases x with
 |one f' n=>
  obtain⟨a,e,_⟩:=hc
  rw[e]at hcell
  exact⟨1,0,n,0,hcell 0 _ rfl,hcell 9 _ rfl,hcell 10 _ rfl,hcell 11 _ rfl,hcell 12 _ rfl,hcell 13 _ rfl,rfl,rfl⟩
 |done=>
  rw[show c=_ from hc]at hcell
  exact⟨0,0,0,0,hcell 0 _ rfl,hcell 9 _ rfl,hcell 10 _ rfl,hcell 11 _ rfl,hcell 12 _ rfl,hcell 13 _ rfl,rfl⟩
 |beg n=>
  rw[show c=_ from hc]at hcell
  exact⟨2,0,n,0,hcell 0 _ rfl,hcell 9 _ rfl,hcell 10 _ rfl,hcell 11 _ rfl,hcell 12 _ rfl,hcell 13 _ rfl,rfl,rfl⟩
 |fin n=>
  rw[show c=_ from hc]at hcell
  exact⟨3,0,n,0,hcell 0 _ rfl,hcell 9 _ rfl,hcell 10 _ rfl,hcell 11 _ rfl,hcell 12 _ rfl,hcell 13 _ rfl,rfl,rfl⟩
 |fork n o=>
  rw[show c=_ from hc]at hcell
  exact⟨4,0,n,o,hcell 0 _ rfl,hcell 9 _ rfl,hcell 10 _ rfl,hcell 11 _ rfl,hcell 12 _ rfl,hcell 13 _ rfl,rfl,rfl,rfl⟩
 |opn s n=>
  rw[show c=_ from hc]at hcell
  exact⟨5,s,n,0,hcell 0 _ rfl,hcell 9 _ rfl,hcell 10 _ rfl,hcell 11 _ rfl,hcell 12 _ rfl,hcell 13 _ rfl,rfl,rfl,rfl⟩
 |shut s n=>
  rw[show c=_ from hc]at hcell
  exact⟨6,s,n,0,hcell 0 _ rfl,hcell 9 _ rfl,hcell 10 _ rfl,hcell 11 _ rfl,hcell 12 _ rfl,hcell 13 _ rfl,rfl,rfl,rfl⟩
 |bck s n=>
  rw[show c=_ from hc]at hcell
  exact⟨7,s,n,0,hcell 0 _ rfl,hcell 9 _ rfl,hcell 10 _ rfl,hcell 11 _ rfl,hcell 12 _ rfl,hcell 13 _ rfl,rfl,rfl,rfl⟩
 |gain n=>
  rw[show c=_ from hc]at hcell
  exact⟨8,0,n,0,hcell 0 _ rfl,hcell 9 _ rfl,hcell 10 _ rfl,hcell 11 _ rfl,hcell 12 _ rfl,hcell 13 _ rfl,rfl,rfl⟩
structure Sure(Δ:Cg):Prop where
 b:Blk Δ
 l24:Δ.ln.size<=24
 lv:Δ.lv=levs (Δ.D.map Prod.snd)
 lb:Δ.lv<=301000
 dl:Δ.D.length<=1000
 dm:∀(q:Nat) x,Δ.D[q]?=some x->x.2<=300
 k12:Δ.k=1\/Δ.k=2
 K1:Δ.K=26+Δ.P.count
 Kle:Δ.K<=1000
 room:Δ.room=if Δ.k=1 then Δ.K else Δ.K*Δ.K
 psz:∀j,j<Δ.P.count->∀i,Δ.P.at_ j i=true->i+Δ.P.sz j<=24
 p24:∀j,j<Δ.P.count->Δ.P.sz j<=24
 num:∀a b,a<=b->b<=24->b<=Δ.ln.size->Δ.P.num a b<Δ.P.count
def backS(Δ:Cg)(σ:Ss)(h:Hd)(s n d v z:Nat):Ss:=if getH h s<26 then σ else reachS Δ σ h n (if 0<Δ.P.sz (getH h s-26)then d else v) ((z&&&bf (Δ.P.at_ (getH h s-26)) 25)<<<Δ.P.sz (getH h s-26))
theorem shl_small{z k:Nat}(h:∀i,z.testBit i=true->i+k<=24):z<<<k<2^25:=by
 apply Nat.lt_pow_two_of_testBit
 intro i hi
 rw[Nat.testBit_shiftLeft]
 by_cases hk:k<=i
 ·cases hb:z.testBit (i-k)
  ·simp
  ·have:=h _ hb;omega
 ·simp[hk]
theorem u32_wrap{x:Int}(h0:0<=x)(h1:x<4294967296):IntKind.u32.wrap x=x:=by
 have:IntKind.u32.wrap x=x%4294967296:=by simp[IntKind.wrap,IntKind.signed,IntKind.bits]
 rw[this]
 omega
theorem shl_wrap{z pa k:Nat}(hz:z<2^25)(hp:pa<2^25)(h:(z&&&pa)<<<k<2^25):IntKind.u32.wrap (bits .and .u32 (z:Int) (pa:Int)*2^k)=(((z&&&pa)<<<k:Nat):Int):=by
 rw[u32_and_nat _ _ (p25 hz) (p25 hp)]
 have e:(((z&&&pa:Nat):Int)*2^k)=(((z&&&pa)<<<k:Nat):Int):=by
  rw[Nat.shiftLeft_eq,Int.natCast_mul,Int.natCast_pow]
  rfl
 rw[e]
 have:=p25 h
 generalize (z&&&pa)<<<k=y at*
 exact u32_wrap (by omega) (by omega)
theorem followBack_any{w:World}{Δ:Cg}{σ:Ss}(hS:Sure Δ)(r:Rdo w Δ)(m:Mut w Δ σ){h:Hd}{b rb:Nat}(hX:σ.X h=some (b,rb)){q s n d v z:Nat}(hq:Δ.D[q]?=some (.bck s n,d))(hs:s<2){y:Sk}{e:Nat}(hn:Δ.D[n]?=some (y,e))(hde:d<=e)(hv:v<=d)(hz:z<2^25)(hQ:σ.Q.length<=10000000000000):
  Calls Tryz.prog 114 #[.pointer (some ⟨Δ.S,0,none⟩),.pointer (some ⟨b,0,none⟩),.pointer (some ⟨Δ.G,q*14,none⟩),.int .i64 v,.int .u32 z] w fun e w'=>e= .returned (.tuple #[])/\Mut w' Δ (backS Δ σ h s n d v z)/\Kp w w' Δ:=by
 obtain⟨k,sl,nx,ot,c0,c9,c10,c11,c12,c13,rfl,rfl,rfl⟩:=(r.st q _ hq).cells
 have st:=m.st h b rb hX
 have hcs:w.cell? ⟨b,s,none⟩=some (.int .i64 (getH h s)):=by
  unfold getH
  rcases(show s=0\/s=1 by omega)with rfl|rfl
  ·exact st.c0
  ·exact st.c1
 have hgK:getH h s<Δ.K:=by
  have:=st.vh
  unfold getH
  split
  ·exact this.1
  ·exact this.2.1
 obtain⟨lc,s2⟩:=r.s2
 have hs0:(0:Int)<=(s:Int):=by omega
 have hs1:(s:Int)<2:=by omega
 have hnl:n<Δ.D.length:=(List.getElem?_eq_some_iff.1 hn).1
 by_cases h26:getH h s<26
 ·have HZ:Hid (backS Δ σ h s n d v z=σ):=hd (by unfold backS;rw[if_pos h26])
  have Hm:=hd m
  generalize getH h s=gh at*
  clear m r st hS hq hn hX
  go_enter Tryz.func114,Tryz.ntmps114
  go_wp2
  go_quiet (fail)
  go_wp2
  refine bodyPost_ret (v:= .tuple #[]) (by simp[results,Tryz.results114,go_sem]) rfl ⟨rfl,by rw[HZ.out];exact Hm.out.drewN,(Kp.refl _ _).drewN⟩
 ·obtain⟨j,hj⟩:∃j,getH h s=26+j:=⟨getH h s-26,by omega⟩
  have hjc:j<Δ.P.count:=by have:=hS.K1;omega
  obtain⟨pl0,pl1⟩:=r.pl j hjc
  have hsz:=hS.p24 j hjc
  have hpz:=hS.psz j hjc
  have hgi:(getH h s:Int)-26=(j:Int):=by omega
  have hgb:(getH h s:Int)<=2000:=by have:=hS.Kle;omega
  have hjc1:(j:Int)<(Δ.P.count:Int):=by omega
  have hjb:(j:Int)<=1000:=by have:=hS.K1;have:=hS.Kle;omega
  have hst:=shl_small (z:=z&&&bf (Δ.P.at_ j) 25) (k:=Δ.P.sz j) (fun i hi=>by
   rw[Nat.testBit_and,bf_bit]at hi
   simp at hi
   exact hpz i hi.2.2)
  have Hreach:=hd (fun(W:World) (hW:Rdo W Δ) (hM:Mut W Δ σ)=>reach_any hS.b hW hM hX hn (show(if 0<Δ.P.sz j then d else v)<=e by split<;>omega) hst hS.lv hS.lb hQ)
  have Hw:=hd (shl_wrap hz (bf_lt (Δ.P.at_ j) 25) hst)
  have HB:Hid (backS Δ σ h s n d v z=reachS Δ σ h n (if 0<Δ.P.sz j then d else v) ((z&&&bf (Δ.P.at_ j) 25)<<<Δ.P.sz j)):=hd (by unfold backS;rw[if_neg h26,hj,show 26+j-26=j by omega])
  have Hr:=hd r
  have Hm:=hd m
  have HS:=hd hS
  have bG:=hS.b
  have Hlo:Hid (bf (Δ.P.at_ j) 25<2^25):=hd (bf_lt _ _)
  clear c13 c11 c0 hst hpz r m st hq hn hX hj h26 hgK hS
  generalize getH h s=gh at*
  generalize Δ.P.sz j=pz at*
  generalize bf (Δ.P.at_ j) 25=pa at*
  generalize Δ.P.count=pc at*
  by_cases hp0:0<pz
  ·rw[if_pos hp0]at Hreach HB
   have hp1:(0:Int)<(pz:Int):=by omega
   go_enter Tryz.func114,Tryz.ntmps114
   go_wp2
   go_quiet (fail)
   go_wp2_with fail
   have lG:=World.block_lt_of_cell? w _ c10
   have lL:=World.block_lt_of_cell? w _ pl0
   have x10:(w.drewN nq).cell? ⟨Δ.G,q*14+10,none⟩=some (.int .i64 n):=c10
   have xl0:(w.drewN nq).cell? ⟨Δ.LB,j*2,none⟩=some (.int .i64 pz):=pl0
   have xl1:(w.drewN nq).cell? ⟨Δ.LB,j*2+1,none⟩=some (.int .u32 pa):=pl1
   have HRW:=hd (Hr.out.kp bG (Kp.refl w Δ).drewN (w':=w.drewN nq))
   have HMW:=hd (Hm.out.drewN (n:=nq))
   have HKW:=hd ((Kp.refl w Δ).drewN (n:=nq))
   generalize w.drewN nq=W at*
   go_region_held3 (fun w'=>w'.cell? ⟨Δ.G,q*14+10,none⟩=some (.int .i64 n)/\w'.cell? ⟨Δ.LB,j*2,none⟩=some (.int .i64 pz)/\w'.cell? ⟨Δ.LB,j*2+1,none⟩=some (.int .u32 pa)) (go_keep)
    ((go_at_call 89;rw[Hw.out];refine(Hreach.out _ (by exact HRW.out.kp bG (Kp.refl _ Δ).drew) (by exact HMW.out.drew)).mono ?_;rintro e w3 ⟨rfl,hm3,hk3⟩;have z10:w3.cell? ⟨Δ.G,q*14+10,none⟩=some (.int .i64 n):=hk3.fcell bG.bG bG.nG bG.mG (by exact x10);have zl0:w3.cell? ⟨Δ.LB,j*2,none⟩=some (.int .i64 pz):=hk3.fcell bG.bL bG.nL bG.mL (by exact xl0);have zl1:w3.cell? ⟨Δ.LB,j*2+1,none⟩=some (.int .u32 pa):=hk3.fcell bG.bL bG.nL bG.mL (by exact xl1)))
   go_end0
   exact⟨rfl,by rw[HB.out];exact hm3,HKW.out.drew.trans hk3⟩
  ·rw[if_neg hp0]at Hreach HB
   have hp1:¬(0:Int)<(pz:Int):=by omega
   go_enter Tryz.func114,Tryz.ntmps114
   go_wp2
   go_quiet (fail)
   go_wp2_with fail
   have lG:=World.block_lt_of_cell? w _ c10
   have lL:=World.block_lt_of_cell? w _ pl0
   have x10:(w.drewN nq).cell? ⟨Δ.G,q*14+10,none⟩=some (.int .i64 n):=c10
   have xl0:(w.drewN nq).cell? ⟨Δ.LB,j*2,none⟩=some (.int .i64 pz):=pl0
   have xl1:(w.drewN nq).cell? ⟨Δ.LB,j*2+1,none⟩=some (.int .u32 pa):=pl1
   have HRW:=hd (Hr.out.kp bG (Kp.refl w Δ).drewN (w':=w.drewN nq))
   have HMW:=hd (Hm.out.drewN (n:=nq))
   have HKW:=hd ((Kp.refl w Δ).drewN (n:=nq))
   generalize w.drewN nq=W at*
   go_region_held3 (fun w'=>w'.cell? ⟨Δ.G,q*14+10,none⟩=some (.int .i64 n)/\w'.cell? ⟨Δ.LB,j*2,none⟩=some (.int .i64 pz)/\w'.cell? ⟨Δ.LB,j*2+1,none⟩=some (.int .u32 pa)) (go_keep)
    ((go_at_call 89;rw[Hw.out];refine(Hreach.out _ (by exact HRW.out.kp bG (Kp.refl _ Δ).drew) (by exact HMW.out.drew)).mono ?_;rintro e w3 ⟨rfl,hm3,hk3⟩;have z10:w3.cell? ⟨Δ.G,q*14+10,none⟩=some (.int .i64 n):=hk3.fcell bG.bG bG.nG bG.mG (by exact x10);have zl0:w3.cell? ⟨Δ.LB,j*2,none⟩=some (.int .i64 pz):=hk3.fcell bG.bL bG.nL bG.mL (by exact xl0);have zl1:w3.cell? ⟨Δ.LB,j*2+1,none⟩=some (.int .u32 pa):=hk3.fcell bG.bL bG.nL bG.mL (by exact xl1)))
   go_end0
   exact⟨rfl,by rw[HB.out];exact hm3,HKW.out.drew.trans hk3⟩
end Go.Proofs.YtldiemjlpnachaaGreatDoor
namespace Go.Proofs.YtldiemjlpnachaaGreatDoor
open Go.RowKit
structure EqP(σ σ':Ss):Prop where
 rc:σ.rc=σ'.rc
 tp:σ.tp=σ'.tp
 wt:σ.wt=σ'.wt
 Q:σ.Q=σ'.Q
 fd:σ.fd=σ'.fd
 to_:σ.to_=σ'.to_
theorem EqP.refl(σ:Ss):EqP σ σ:=⟨rfl,rfl,rfl,rfl,rfl,rfl⟩
theorem EqP.trans{a b c:Ss}(h:EqP a b)(k:EqP b c):EqP a c:=⟨h.rc.trans k.rc,h.tp.trans k.tp,h.wt.trans k.wt,h.Q.trans k.Q,h.fd.trans k.fd,h.to_.trans k.to_⟩
theorem EqP.reach{σ σ':Ss}(e:EqP σ σ')(Δ:Cg)(h:Hd)(p v z:Nat):EqP (reachS Δ σ h p v z) (reachS Δ σ' h p v z):=by
 unfold reachS
 rw[e.rc]
 split
 ·exact e
 ·exact⟨by simp only,by simp only;rw[e.tp],by simp only;rw[e.wt],by simp only;rw[e.wt,e.Q],e.fd,e.to_⟩
theorem reachS_X(Δ:Cg)(σ:Ss)(h:Hd)(p v z:Nat):(reachS Δ σ h p v z).X=σ.X:=by
 unfold reachS
 split<;>rfl
theorem reachS_Q(Δ:Cg)(σ:Ss)(h:Hd)(p v z:Nat):(reachS Δ σ h p v z).Q.length<=σ.Q.length+1:=by
 unfold reachS
 split
 ·omega
 ·simp only
  split
  ·omega
  ·simp
theorem Un.reach{Δ:Cg}{σ:Ss}(un:Un σ){h:Hd}{br:Nat×Nat}(hX:σ.X h=some br)(p v z:Nat):Un (reachS Δ σ h p v z):=by
 intro h' hn
 rw[reachS_X]at hn
 have hne:h'≠h:=fun e=>by rw[e,hX]at hn;cases hn
 obtain⟨u1,u2,u3⟩:=un h' hn
 unfold reachS
 split
 ·exact⟨u1,u2,u3⟩
 ·refine⟨fun m=>?_,?_,?_⟩
  ·simp only;rw[if_neg (fun e=>hne e.1)];exact u1 m
  ·simp only;rw[if_neg hne];exact u2
  ·simp only;rw[if_neg hne];exact u3
theorem Un.met{σ:Ss}(un:Un σ)(h:Hd)(b r:Nat):Un (metS σ h b r):=by
 intro h' hn
 have hn':(if h'=h then some (b,r)else σ.X h')=none:=hn
 by_cases e:h'=h
 ·rw[if_pos e]at hn';cases hn'
 ·rw[if_neg e]at hn';exact un h' hn'
def Ext(σ σ':Ss):Prop:=∀h br,σ.X h=some br->σ'.X h=some br
def gGo(Δ:Cg)(z:Nat)(f:Nat->Hd)(n v:Nat):Nat->Ss->Ss
 |0,σ=>σ
 |t+1,σ=>if z.testBit t=true then reachS Δ (gGo Δ z f n v t σ) (f t) n v (2^t)else gGo Δ z f n v t σ
theorem gGo_Q(Δ:Cg)(z:Nat)(f:Nat->Hd)(n v:Nat)(σ:Ss):∀t,(gGo Δ z f n v t σ).Q.length<=σ.Q.length+t
 |0=>by simp[gGo]
 |t+1=>by
  have h:=gGo_Q Δ z f n v σ t
  rw[gGo]
  split
  ·have:=reachS_Q Δ (gGo Δ z f n v t σ) (f t) n v (2^t);omega
  ·omega
def MutP(w0 w:World)(Δ:Cg)(σ0 σ:Ss):Prop:=∃σ',Mut w Δ σ'/\EqP σ' σ/\Ext σ0 σ'/\Un σ'/\Kp w0 w Δ
theorem settingOf_at{w:World}{Δ:Cg}{σ:Ss}(hS:Sure Δ)(r:Rdo w Δ)(m:Mut w Δ σ)(un:Un σ){h:Hd}(hv:Vh Δ h)(x y:Int)(hx:x=h.1)(hy:y=h.2):
  Calls Tryz.prog 88 #[.pointer (some ⟨Δ.S,0,none⟩),.agg #[.int .i64 x,.int .i64 y]] w fun e w'=>∃b rb,e= .returned (.pointer (some ⟨b,0,none⟩))/\∃σ',Mut w' Δ σ'/\EqP σ' σ/\Ext σ σ'/\Un σ'/\σ'.X h=some (b,rb)/\Kp w w' Δ:=by
 subst hx hy
 refine(settingOf_any hS.b r m un hv hS.k12 hS.Kle hS.room hS.lb).mono ?_
 rintro e w' ⟨b,rb,rfl,hm,hk⟩
 refine⟨b,rb,rfl,?_⟩
 rcases hm with⟨hX,hm⟩|⟨hX,hm⟩
 ·exact⟨σ,hm,EqP.refl _,fun _ _ h=>h,un,hX,hk⟩
 ·refine⟨_,hm,⟨rfl,rfl,rfl,rfl,rfl,rfl⟩,fun h' br h2=>?_,un.met h b rb,if_pos rfl,hk⟩
  show(if h'=h then some (b,rb)else σ.X h')=some br
  rw[if_neg (fun e=>by rw[e,hX]at h2;cases h2)]
  exact h2
theorem vh_set{Δ:Cg}{h:Hd}(hv:Vh Δ h){s x:Nat}(hs:s<Δ.k)(hx:x<Δ.K):Vh Δ (setH h s x):=by
 obtain⟨a,b,c⟩:=hv
 unfold setH
 by_cases e:s=0
 ·rw[if_pos e];exact⟨hx,b,c⟩
 ·rw[if_neg e];exact⟨a,hx,fun h1=>by omega⟩
theorem followOpen_any{w:World}{Δ:Cg}{σ:Ss}(hS:Sure Δ)(r:Rdo w Δ)(m:Mut w Δ σ)(un:Un σ){h:Hd}{b rb:Nat}(hX:σ.X h=some (b,rb)){q s n d v z:Nat}(hq:Δ.D[q]?=some (.opn s n,d))(hs:s<Δ.k){y:Sk}{e:Nat}(hn:Δ.D[n]?=some (y,e))(hde:d<=e)(hv:v<=d)(hz:z<2^25)(hQ:σ.Q.length<=9000000000000):
  Calls Tryz.prog 113 #[.pointer (some ⟨Δ.S,0,none⟩),.pointer (some ⟨b,0,none⟩),.pointer (some ⟨Δ.G,q*14,none⟩),.int .i64 v,.int .u32 z] w fun e w'=>e= .returned (.tuple #[])/\MutP w w' Δ σ (gGo Δ z (fun t=>setH h s (1+t)) n v (Δ.ln.size+1) σ):=by
 have Hr:=hd r
 have hb:=hS.b
 have HS:=hd hS
 have Hz:=hd hz
 have Hm:=hd m
 have Hun:=hd un
 have HX:=hd hX
 have Hq:=hd hq
 have Hn:=hd hn
 have hl:=hS.l24
 have hsk:s<2:=by have:=hS.k12;omega
 clear r m un hX hS hz hq hn
 go_enter Tryz.func113,Tryz.ntmps113
 go_wp2
 go_loopg [10] 26 (fun f pl wr=>∃t:Nat,pl= .int .i64 t/\t<=Δ.ln.size+1/\25<t+f/\Hid (MutP w wr Δ σ (gGo Δ z (fun t=>setH h s (1+t)) n v t σ)))
 case atStart=>exact⟨0,rfl,by omega,by omega,hd ⟨σ,Hm.out,EqP.refl _,fun _ _ h=>h,Hun.out,Kp.refl _ _⟩⟩
 case round=>
  obtain⟨t,rfl,ht,hf,HG⟩:=hrel
  obtain⟨σt,mt,et,xt,ut,kt⟩:=HG.out
  have hr:=Hr.out.kp hb kt
  have s1:=hr.s1
  have hXt:=xt h _ HX.out
  have st:=mt.st h b rb hXt
  have k0:=st.c0
  have k1:=st.c1
  obtain⟨kk,sl,nx,ot,c0,c9,c10,c11,c12,c13,rfl,rfl,rfl⟩:=(hr.st q _ Hq.out).cells
  by_cases hlt:t<Δ.ln.size+1
  ·have Hh:=hd (phas_any wr z Hz.out t t rfl (by omega) _ rfl)
   cases hbit:z.testBit t
   ·rw[hbit]at Hh
    have HN:Hid (gGo Δ z (fun t=>setH h s (1+t)) n v (t+1) σ=gGo Δ z (fun t=>setH h s (1+t)) n v t σ):=hd (by rw[gGo,if_neg (by rw[hbit];simp)])
    clear hbit hr st mt et xt ut kt hXt
    go_wp2_with (go_at_call 110;refine Hh.out.mono ?_;rintro e w' ⟨rfl,rfl⟩)
    go_roundg (gk-1)
    case measure=>omega
    case rel=>exact⟨t+1,by go_num,by omega,by omega,hd (by rw[HN.out];exact HG.out)⟩
   ·rw[hbit]at Hh
    have lb:=st.bb.2
    have lG:=World.block_lt_of_cell? wr _ c0
    have ng:=World.new_ne wr ⟨Δ.G,q*14,none⟩ c0
    have ng9:=World.new_ne wr ⟨Δ.G,q*14+9,none⟩ c9
    have Hbit:=hd hbit
    have hs0:(0:Int)<=(s:Int):=by omega
    have hs1:(s:Int)<2:=by omega
    have HMt:=hd mt
    have Het:=hd et
    have Hxt:=hd xt
    have Hut:=hd ut
    have Hkt:=hd kt
    have HXt:=hd hXt
    clear hbit mt et xt ut kt hXt st hr HG
    go_wp2_with fail
    refine Hh.out.mono ?_
    rintro e w' ⟨rfl,hww⟩
    subst w'
    have hr:=Hr.out.kp hb Hkt.out
    have hvt:Vh Δ (setH h s (1+t)):=vh_set (HMt.out.st h b rb HXt.out).vh hs (by have:=HS.out.K1;omega)
    have HN:Hid (gGo Δ z (fun t=>setH h s (1+t)) n v (t+1) σ=reachS Δ (gGo Δ z (fun t=>setH h s (1+t)) n v t σ) (setH h s (1+t)) n v (2^t)):=hd (by rw[gGo,if_pos Hbit.out])
    have hQt:(gGo Δ z (fun t=>setH h s (1+t)) n v t σ).Q.length<=9000000000025:=by have:=gGo_Q Δ z (fun t=>setH h s (1+t)) n v σ t;omega
    have HQt:Hid (σt.Q.length<=10000000000000):=hd (by rw[Het.out.Q];omega)
    have Hvt:=hd hvt
    have Hr':=hd hr
    have h2t:2^t<2^25:=Nat.pow_lt_pow_right (by omega) (by omega)
    have H2t:=hd h2t
    have hve:v<=e:=by omega
    clear hr hvt hQt h2t
    rcases(show s=0\/s=1 by omega)with rfl|rfl
    ·go_wp2_with fail
     have lb1:=HMt.out.sz
     have mA:=HMt.out.alloc hb (.cells #[.int .i64 (1+(t:Int)),.int .i64 h.2] 169)
     have kA:=(Kp.refl wr Δ).alloc hb lb1 (.cells #[.int .i64 (1+(t:Int)),.int .i64 h.2] 169)
     refine(settingOf_at HS.out (Hr'.out.kp hb kA) mA Hut.out Hvt.out _ _ (by simp[setH]) (by simp[setH])).mono ?_
     rintro e1 w1 ⟨b1,rb1,rfl,σ1,m1,eq1,x1,u1,hX1,k1'⟩
     have K1:=hd (Hkt.out.trans (kA.trans k1'))
     have R1:=hd (Hr.out.kp hb K1.out)
     obtain⟨kk,sl,nx,ot,d0,d9,d10,d11,d12,d13,rfl,rfl,rfl⟩:=(R1.out.st q _ Hq.out).cells
     have M1:=hd m1
     have EQ1:=hd eq1
     have X1:=hd x1
     have U1:=hd u1
     have HX1:=hd hX1
     have lG1:=World.block_lt_of_cell? w1 _ d10
     clear m1 eq1 x1 u1 hX1 k1' mA kA d0 d9 d11 d12 d13 c0 c9 c10 c11 c12 c13 k0 k1 s1 lb lG ng ng9
     go_wp2_with fail
     go_region_held3 (fun w'=>w'.cell? ⟨Δ.G,q*14+10,none⟩=some (.int .i64 n)) (go_keep)
      ((first
       |(go_at_call 90;refine(only_any _ _ t rfl (by omega)).mono ?_;rintro e2 w2 ⟨rfl,rfl⟩)
       |(go_at_call 89;refine(reach_any hb (by exact R1.out.kp hb (Kp.refl _ Δ).drew) (by exact M1.out.drew) HX1.out Hn.out hve H2t.out HS.out.lv HS.out.lb (by rw[EQ1.out.Q];exact HQt.out)).mono ?_;rintro e3 w3 ⟨rfl,m3,k3⟩;have z10:w3.cell? ⟨Δ.G,q*14+10,none⟩=some (.int .i64 n):=k3.fcell hb.bG hb.nG hb.mG (by exact d10))))
     have HF:Hid (MutP w w3 Δ σ (gGo Δ z (fun t=>setH h 0 (1+t)) n v (t+1) σ)):=hd ⟨_,m3,by rw[HN.out];exact(EQ1.out.trans Het.out).reach Δ _ n v (2^t),fun h2 br h3=>by rw[reachS_X];exact X1.out _ _ (Hxt.out _ _ h3),U1.out.reach HX1.out n v _,K1.out.trans ((Kp.refl _ _).drew.trans k3)⟩
     clear m3 k3 z10
     go_wp2
     go_roundg (gk-1)
     case measure=>omega
     case rel=>exact⟨t+1,by go_num,by omega,by omega,HF⟩
    ·go_wp2_with fail
     have lb1:=HMt.out.sz
     have mA:=HMt.out.alloc hb (.cells #[.int .i64 h.1,.int .i64 (1+(t:Int))] 169)
     have kA:=(Kp.refl wr Δ).alloc hb lb1 (.cells #[.int .i64 h.1,.int .i64 (1+(t:Int))] 169)
     refine(settingOf_at HS.out (Hr'.out.kp hb kA) mA Hut.out Hvt.out _ _ (by simp[setH]) (by simp[setH])).mono ?_
     rintro e1 w1 ⟨b1,rb1,rfl,σ1,m1,eq1,x1,u1,hX1,k1'⟩
     have K1:=hd (Hkt.out.trans (kA.trans k1'))
     have R1:=hd (Hr.out.kp hb K1.out)
     obtain⟨kk,sl,nx,ot,d0,d9,d10,d11,d12,d13,rfl,rfl,rfl⟩:=(R1.out.st q _ Hq.out).cells
     have M1:=hd m1
     have EQ1:=hd eq1
     have X1:=hd x1
     have U1:=hd u1
     have HX1:=hd hX1
     have lG1:=World.block_lt_of_cell? w1 _ d10
     clear m1 eq1 x1 u1 hX1 k1' mA kA d0 d9 d11 d12 d13 c0 c9 c10 c11 c12 c13 k0 k1 s1 lb lG ng ng9
     go_wp2_with fail
     go_region_held3 (fun w'=>w'.cell? ⟨Δ.G,q*14+10,none⟩=some (.int .i64 n)) (go_keep)
      ((first
       |(go_at_call 90;refine(only_any _ _ t rfl (by omega)).mono ?_;rintro e2 w2 ⟨rfl,rfl⟩)
       |(go_at_call 89;refine(reach_any hb (by exact R1.out.kp hb (Kp.refl _ Δ).drew) (by exact M1.out.drew) HX1.out Hn.out hve H2t.out HS.out.lv HS.out.lb (by rw[EQ1.out.Q];exact HQt.out)).mono ?_;rintro e3 w3 ⟨rfl,m3,k3⟩;have z10:w3.cell? ⟨Δ.G,q*14+10,none⟩=some (.int .i64 n):=k3.fcell hb.bG hb.nG hb.mG (by exact d10))))
     have HF:Hid (MutP w w3 Δ σ (gGo Δ z (fun t=>setH h 1 (1+t)) n v (t+1) σ)):=hd ⟨_,m3,by rw[HN.out];exact(EQ1.out.trans Het.out).reach Δ _ n v (2^t),fun h2 br h3=>by rw[reachS_X];exact X1.out _ _ (Hxt.out _ _ h3),U1.out.reach HX1.out n v _,K1.out.trans ((Kp.refl _ _).drew.trans k3)⟩
     clear m3 k3 z10
     go_wp2
     go_roundg (gk-1)
     case measure=>omega
     case rel=>exact⟨t+1,by go_num,by omega,by omega,HF⟩
  ·obtain rfl:t=Δ.ln.size+1:=by omega
   clear hr st mt et xt ut kt hXt
   go_wp2
   go_end0
   exact⟨rfl,HG.out⟩
end Go.Proofs.YtldiemjlpnachaaGreatDoor

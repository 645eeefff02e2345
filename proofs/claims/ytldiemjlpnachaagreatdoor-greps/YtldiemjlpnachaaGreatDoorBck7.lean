import Derived.Test.YtldiemjlpnachaaGreatDoorBck3
set_option maxHeartbeats 6400000
set_option maxRecDepth 100000
namespace Go.Proofs.YtldiemjlpnachaaGreatDoor
open Go.RowKit
theorem Mut.below{w W:World}{Δ:Cg}{σ:Ss}(m:Mut w Δ σ)(hb:Blk Δ)(h:Below w.heap.size w W):Mut W Δ σ/\Kp w W Δ:=by
 have bS:=hb.bS
 have bM:=hb.bM
 have hs:=m.sz
 have cl:∀(b i:Nat),b<w.heap.size->W.cell? ⟨b,i,none⟩=w.cell? ⟨b,i,none⟩:=fun b i hl=>h.cell (by exact hl)
 have fr:∀(b i:Nat),b<w.heap.size->W.frozen? ⟨b,i,none⟩=w.frozen? ⟨b,i,none⟩:=fun b i hl=>h.frozen (by exact hl)
 obtain⟨v,hv,ho,hg⟩:=m.wq
 exact⟨⟨Nat.le_trans hs h.size,fun h' hv=>(cl _ _ (by omega)).trans (m.mb h' hv),fun i=>(fr _ _ (by omega)).trans (m.mf i),fun h' b r hX=>(m.st h' b r hX).far h.size (h.block _ (m.st h' b r hX).bb.2) (h.block _ (m.st h' b r hX).br.2) rfl rfl rfl,m.inj,⟨v,(cl _ _ (by omega)).trans hv,owns_same ho (fun k hk=>h.block k (ho.lt k hk).2),hg⟩,m.qx,(cl _ _ (by omega)).trans m.c632,(cl _ _ (by omega)).trans m.c633,fun i hi=>(fr _ _ (by omega)).trans (m.fS i hi)⟩,
  ⟨h.os,h.tape,h.output,h.size,fun k h1 _ _=>h.block k (by omega),fun i _=>cl _ i (by omega)⟩⟩
theorem below_set{N:Nat}{w w':World}(h:Below N w w')(b i:Nat)(hb:N<=b)(v:Value):Below N w (w'.setCell ⟨b,i,none⟩ v):=h.setCell (by exact hb) v
theorem below_drwN{N n:Nat}{w w':World}(h:Below N w w'):Below N w (w'.drewN n):=⟨h.os,h.tape,h.output,h.size,h.block⟩
theorem followShut_any{w:World}{Δ:Cg}{σ:Ss}(hS:Sure Δ)(r:Rdo w Δ)(m:Mut w Δ σ)(un:Un σ){h:Hd}{b rb:Nat}(hX:σ.X h=some (b,rb)){q s n d v z:Nat}(hq:Δ.D[q]?=some (.shut s n,d))(hs:s<Δ.k){a:Nat}(ha:getH h s=1+a)(hal:∀t,z.testBit t=true->t<=Δ.ln.size->a<=t){y:Sk}{e:Nat}(hn:Δ.D[n]?=some (y,e))(hde:d<=e)(hv:v<=d)(hz:z<2^25)(hQ:σ.Q.length<=9000000000000):
  Calls Tryz.prog 113 #[.pointer (some ⟨Δ.S,0,none⟩),.pointer (some ⟨b,0,none⟩),.pointer (some ⟨Δ.G,q*14,none⟩),.int .i64 v,.int .u32 z] w fun e w'=>e= .returned (.tuple #[])/\MutP w w' Δ σ (gGo Δ z (fun t=>setH h s (26+Δ.P.num a t)) n v (Δ.ln.size+1) σ):=by
 have Hr:=hd r
 have hb:=hS.b
 have HS:=hd hS
 have Hz:=hd hz
 have Hm:=hd m
 have Hun:=hd un
 have HX:=hd hX
 have Hq:=hd hq
 have Hn:=hd hn
 have hl:=hS.l24
 have hsk:s<2:=by have:=hS.k12;omega
 clear r m un hX hS hz hq hn
 go_enter Tryz.func113,Tryz.ntmps113
 go_wp2
 go_loopg [10] 26 (fun f pl wr=>∃t:Nat,pl= .int .i64 t/\t<=Δ.ln.size+1/\25<t+f/\Hid (MutP w wr Δ σ (gGo Δ z (fun t=>setH h s (26+Δ.P.num a t)) n v t σ)))
 case atStart=>exact⟨0,rfl,by omega,by omega,hd ⟨σ,Hm.out,EqP.refl _,fun _ _ h=>h,Hun.out,Kp.refl _ _⟩⟩
 case round=>
  obtain⟨t,rfl,ht,hf,HG⟩:=hrel
  obtain⟨σt,mt,et,xt,ut,kt⟩:=HG.out
  have hr:=Hr.out.kp hb kt
  have s1:=hr.s1
  have hXt:=xt h _ HX.out
  have st:=mt.st h b rb hXt
  have k0:=st.c0
  have k1:=st.c1
  obtain⟨kk,sl,nx,ot,c0,c9,c10,c11,c12,c13,rfl,rfl,rfl⟩:=(hr.st q _ Hq.out).cells
  by_cases hlt:t<Δ.ln.size+1
  ·have Hh:=hd (phas_any wr z Hz.out t t rfl (by omega) _ rfl)
   cases hbit:z.testBit t
   ·rw[hbit]at Hh
    have HN:Hid (gGo Δ z (fun t=>setH h s (26+Δ.P.num a t)) n v (t+1) σ=gGo Δ z (fun t=>setH h s (26+Δ.P.num a t)) n v t σ):=hd (by rw[gGo,if_neg (by rw[hbit];simp)])
    clear hbit hr st mt et xt ut kt hXt
    go_wp2_with (go_at_call 110;refine Hh.out.mono ?_;rintro e w' ⟨rfl,rfl⟩)
    go_roundg (gk-1)
    case measure=>omega
    case rel=>exact⟨t+1,by go_num,by omega,by omega,hd (by rw[HN.out];exact HG.out)⟩
   ·rw[hbit]at Hh
    have lb:=st.bb.2
    have lG:=World.block_lt_of_cell? wr _ c0
    have ng:=World.new_ne wr ⟨Δ.G,q*14,none⟩ c0
    have ng9:=World.new_ne wr ⟨Δ.G,q*14+9,none⟩ c9
    have Hbit:=hd hbit
    have hat:=hal t hbit (by omega)
    have cn:=hr.num a t (by omega) (by omega)
    have lS:=World.block_lt_of_cell? wr _ s1
    have nS:=World.new_ne wr ⟨Δ.S,3+a*25+t,none⟩ cn
    have hcs:wr.cell? ⟨b,s,none⟩=some (.int .i64 (1+(a:Int))):=by
     rcases(show s=0\/s=1 by omega)with rfl|rfl
     ·rw[show(1+(a:Int))=((h.1:Nat):Int) by have:h.1=1+a:=ha;omega];exact k0
     ·rw[show(1+(a:Int))=((h.2:Nat):Int) by have:h.2=1+a:=ha;omega];exact k1
    have hab:(a:Int)<=24:=by omega
    have ha0:(0:Int)<=(a:Int):=by omega
    have ht0:(0:Int)<=(t:Int):=by omega
    have ht1:(t:Int)<25:=by omega
    have ha1:(a:Int)<25:=by omega
    have hnb:((Δ.P.num a t:Nat):Int)<=2000:=by have:=HS.out.num a t hat (by omega) (by omega);have:=HS.out.K1;have:=HS.out.Kle;omega
    have hs0:(0:Int)<=(s:Int):=by omega
    have hs1:(s:Int)<2:=by omega
    have HMt:=hd mt
    have Het:=hd et
    have Hxt:=hd xt
    have Hut:=hd ut
    have Hkt:=hd kt
    have HXt:=hd hXt
    clear hbit mt et xt ut kt hXt st hr HG
    go_wp2_with fail
    refine Hh.out.mono ?_
    rintro e w' ⟨rfl,hww⟩
    subst w'
    have hr:=Hr.out.kp hb Hkt.out
    have hvt:Vh Δ (setH h s (26+Δ.P.num a t)):=vh_set (HMt.out.st h b rb HXt.out).vh hs (by have:=HS.out.K1;have:=HS.out.num a t hat (by omega) (by omega);omega)
    have HN:Hid (gGo Δ z (fun t=>setH h s (26+Δ.P.num a t)) n v (t+1) σ=reachS Δ (gGo Δ z (fun t=>setH h s (26+Δ.P.num a t)) n v t σ) (setH h s (26+Δ.P.num a t)) n v (2^t)):=hd (by rw[gGo,if_pos Hbit.out])
    have hQt:(gGo Δ z (fun t=>setH h s (26+Δ.P.num a t)) n v t σ).Q.length<=9000000000025:=by have:=gGo_Q Δ z (fun t=>setH h s (26+Δ.P.num a t)) n v σ t;omega
    have HQt:Hid (σt.Q.length<=10000000000000):=hd (by rw[Het.out.Q];omega)
    have Hvt:=hd hvt
    have Hr':=hd hr
    have h2t:2^t<2^25:=Nat.pow_lt_pow_right (by omega) (by omega)
    have H2t:=hd h2t
    have hve:v<=e:=by omega
    clear hr hvt hQt h2t
    rcases(show s=0\/s=1 by omega)with rfl|rfl
    ·clear k0
     go_wp2_with fail
     go_quiet (fail)
     go_wp2_with fail
     go_region
     go_wp2_with fail
     have hbel:=below_drwN (n:=nq+1) ((Below.refl wr.heap.size wr).alloc (Nat.le_refl _) (.cells #[.int .i64 (1+(a:Int)),.int .i64 h.2] 169))
     have hmk:=HMt.out.below hb (below_set hbel wr.heap.size 0 (Nat.le_refl _) (.int .i64 (26+(Δ.P.num a t:Int))))
     have mA:=hmk.1
     have kA:=hmk.2
     refine(settingOf_at HS.out (Hr'.out.kp hb kA) mA Hut.out Hvt.out _ _ (by simp[setH]) (by simp[setH])).mono ?_
     rintro e1 w1 ⟨b1,rb1,rfl,σ1,m1,eq1,x1,u1,hX1,k1'⟩
     have K1:=hd (Hkt.out.trans (kA.trans k1'))
     have R1:=hd (Hr.out.kp hb K1.out)
     obtain⟨kk,sl,nx,ot,d0,d9,d10,d11,d12,d13,rfl,rfl,rfl⟩:=(R1.out.st q _ Hq.out).cells
     have M1:=hd m1
     have EQ1:=hd eq1
     have X1:=hd x1
     have U1:=hd u1
     have HX1:=hd hX1
     have lG1:=World.block_lt_of_cell? w1 _ d10
     clear m1 eq1 x1 u1 hX1 k1' mA kA hmk hbel d0 d9 d11 d12 d13 c0 c9 c10 c11 c12 c13 k1 hcs cn s1 lb lG lS nS ng ng9
     go_wp2_with fail
     go_region_held3 (fun w'=>w'.cell? ⟨Δ.G,q*14+10,none⟩=some (.int .i64 n)) (go_keep)
      ((first
       |(go_at_call 90;refine(only_any _ _ t rfl (by omega)).mono ?_;rintro e2 w2 ⟨rfl,rfl⟩)
       |(go_at_call 89;refine(reach_any hb (by exact R1.out.kp hb (Kp.refl _ Δ).drew) (by exact M1.out.drew) HX1.out Hn.out hve H2t.out HS.out.lv HS.out.lb (by rw[EQ1.out.Q];exact HQt.out)).mono ?_;rintro e3 w3 ⟨rfl,m3,k3⟩;have z10:w3.cell? ⟨Δ.G,q*14+10,none⟩=some (.int .i64 n):=k3.fcell hb.bG hb.nG hb.mG (by exact d10))))
     have HF:Hid (MutP w w3 Δ σ (gGo Δ z (fun t=>setH h 0 (26+Δ.P.num a t)) n v (t+1) σ)):=hd ⟨_,m3,by rw[HN.out];exact(EQ1.out.trans Het.out).reach Δ _ n v (2^t),fun h2 br h3=>by rw[reachS_X];exact X1.out _ _ (Hxt.out _ _ h3),U1.out.reach HX1.out n v _,K1.out.trans ((Kp.refl _ _).drew.trans k3)⟩
     clear m3 k3 z10
     go_wp2
     go_roundg (gk-1)
     case measure=>omega
     case rel=>exact⟨t+1,by go_num,by omega,by omega,HF⟩
    ·clear k1
     go_wp2_with fail
     go_quiet (fail)
     go_wp2_with fail
     go_region
     go_wp2_with fail
     have hbel:=below_drwN (n:=nq+1) ((Below.refl wr.heap.size wr).alloc (Nat.le_refl _) (.cells #[.int .i64 h.1,.int .i64 (1+(a:Int))] 169))
     have hmk:=HMt.out.below hb (below_set hbel wr.heap.size 1 (Nat.le_refl _) (.int .i64 (26+(Δ.P.num a t:Int))))
     have mA:=hmk.1
     have kA:=hmk.2
     refine(settingOf_at HS.out (Hr'.out.kp hb kA) mA Hut.out Hvt.out _ _ (by simp[setH]) (by simp[setH])).mono ?_
     rintro e1 w1 ⟨b1,rb1,rfl,σ1,m1,eq1,x1,u1,hX1,k1'⟩
     have K1:=hd (Hkt.out.trans (kA.trans k1'))
     have R1:=hd (Hr.out.kp hb K1.out)
     obtain⟨kk,sl,nx,ot,d0,d9,d10,d11,d12,d13,rfl,rfl,rfl⟩:=(R1.out.st q _ Hq.out).cells
     have M1:=hd m1
     have EQ1:=hd eq1
     have X1:=hd x1
     have U1:=hd u1
     have HX1:=hd hX1
     have lG1:=World.block_lt_of_cell? w1 _ d10
     clear m1 eq1 x1 u1 hX1 k1' mA kA hmk hbel d0 d9 d11 d12 d13 c0 c9 c10 c11 c12 c13 k0 hcs cn s1 lb lG lS nS ng ng9
     go_wp2_with fail
     go_region_held3 (fun w'=>w'.cell? ⟨Δ.G,q*14+10,none⟩=some (.int .i64 n)) (go_keep)
      ((first
       |(go_at_call 90;refine(only_any _ _ t rfl (by omega)).mono ?_;rintro e2 w2 ⟨rfl,rfl⟩)
       |(go_at_call 89;refine(reach_any hb (by exact R1.out.kp hb (Kp.refl _ Δ).drew) (by exact M1.out.drew) HX1.out Hn.out hve H2t.out HS.out.lv HS.out.lb (by rw[EQ1.out.Q];exact HQt.out)).mono ?_;rintro e3 w3 ⟨rfl,m3,k3⟩;have z10:w3.cell? ⟨Δ.G,q*14+10,none⟩=some (.int .i64 n):=k3.fcell hb.bG hb.nG hb.mG (by exact d10))))
     have HF:Hid (MutP w w3 Δ σ (gGo Δ z (fun t=>setH h 1 (26+Δ.P.num a t)) n v (t+1) σ)):=hd ⟨_,m3,by rw[HN.out];exact(EQ1.out.trans Het.out).reach Δ _ n v (2^t),fun h2 br h3=>by rw[reachS_X];exact X1.out _ _ (Hxt.out _ _ h3),U1.out.reach HX1.out n v _,K1.out.trans ((Kp.refl _ _).drew.trans k3)⟩
     clear m3 k3 z10
     go_wp2
     go_roundg (gk-1)
     case measure=>omega
     case rel=>exact⟨t+1,by go_num,by omega,by omega,HF⟩
  ·obtain rfl:t=Δ.ln.size+1:=by omega
   clear hr st mt et xt ut kt hXt
   go_wp2
   go_end0
   exact⟨rfl,HG.out⟩
end Go.Proofs.YtldiemjlpnachaaGreatDoor
namespace Go.Proofs.YtldiemjlpnachaaGreatDoor
open Go.RowKit
def folS(Δ:Cg)(σ:Ss)(h:Hd)(x:Sk)(d v z:Nat):Ss:=match x with
 | .done=>matchS Δ σ z
 | .one f n=>reachS Δ σ h n d ((z&&&bf (fun i=>f (ch Δ.ln.data.toList i)) Δ.ln.size)<<<1)
 | .beg n=>reachS Δ σ h n v (z&&&2^0)
 | .fin n=>reachS Δ σ h n v (z&&&2^Δ.ln.size)
 | .fork n o=>reachS Δ (reachS Δ σ h n v z) h o v z
 | .opn s n=>gGo Δ z (fun t=>setH h s (1+t)) n v (Δ.ln.size+1) σ
 | .shut s n=>gGo Δ z (fun t=>setH h s (26+Δ.P.num (getH h s-1) t)) n v (Δ.ln.size+1) σ
 | .bck s n=>backS Δ σ h s n d v z
 | .gain n=>if v=d then reachS Δ σ h n (v-1) z else σ
theorem MutP.of{w w':World}{Δ:Cg}{σ σ':Ss}(m:Mut w' Δ σ')(e:Ext σ σ')(u:Un σ')(k:Kp w w' Δ):MutP w w' Δ σ σ':=⟨σ',m,EqP.refl _,e,u,k⟩
theorem ext_reach(Δ:Cg)(σ:Ss)(h:Hd)(p v z:Nat):Ext σ (reachS Δ σ h p v z):=fun h' br hb=>by rw[reachS_X];exact hb
theorem follow_done{w:World}{Δ:Cg}{σ:Ss}(hS:Sure Δ)(r:Rdo w Δ)(m:Mut w Δ σ)(un:Un σ){h:Hd}{b rb:Nat}(hX:σ.X h=some (b,rb)){q d v z:Nat}(hq:Δ.D[q]?=some (.done,d))(_:v<=d)(hz:z<2^25)(_:σ.Q.length<=9000000000000):
  Calls Tryz.prog 111 #[.pointer (some ⟨Δ.S,0,none⟩),.pointer (some ⟨b,0,none⟩),.int .i64 q,.int .i64 v,.int .u32 z] w fun e w'=>e= .returned (.tuple #[])/\MutP w w' Δ σ (folS Δ σ h (.done) d v z):=by
 obtain⟨k,sl,nx,ot,c0,c9,c10,c11,c12,c13,rfl⟩:=(r.st q _ hq).cells
 have s0:=r.s0
 have p0:=r.p0
 have hb:=hS.b
 have hql:q<Δ.D.length:=(List.getElem?_eq_some_iff.1 hq).1
 have hq0:(0:Int)<=(q:Int):=by omega
 have hq1:(q:Int)<(Δ.D.length:Int):=by omega
 have Hr:=hd r
 have Hm:=hd m
 have Hun:=hd un
 have HX:=hd hX
 have HS:=hd hS
 have Hc:=hd (match_any hS.b r m z hz hS.l24)
 clear r m un hX hS hq
 go_enter Tryz.func111,Tryz.ntmps111
 go_wp2_with fail
 refine Hc.out.mono ?_
 rintro e w' ⟨rfl,m1,k1⟩
 have HF:Hid (MutP w w' Δ σ (folS Δ σ h .done d v z)):=hd (MutP.of m1 (fun _ _ h=>h) Hun.out k1)
 clear m1 k1
 go_wp2
 go_end0
 exact⟨rfl,HF.out⟩
theorem follow_fork{w:World}{Δ:Cg}{σ:Ss}(hS:Sure Δ)(r:Rdo w Δ)(m:Mut w Δ σ)(un:Un σ){h:Hd}{b rb:Nat}(hX:σ.X h=some (b,rb)){q d v z:Nat}{n o:Nat}(hq:Δ.D[q]?=some (.fork n o,d)){y y2:Sk}{e e2:Nat}(hn:Δ.D[n]?=some (y,e))(hde:d<=e)(ho:Δ.D[o]?=some (y2,e2))(hde2:d<=e2)(hv:v<=d)(hz:z<2^25)(hQ:σ.Q.length<=9000000000000):
  Calls Tryz.prog 111 #[.pointer (some ⟨Δ.S,0,none⟩),.pointer (some ⟨b,0,none⟩),.int .i64 q,.int .i64 v,.int .u32 z] w fun e w'=>e= .returned (.tuple #[])/\MutP w w' Δ σ (folS Δ σ h (.fork n o) d v z):=by
 obtain⟨k,sl,nx,ot,c0,c9,c10,c11,c12,c13,rfl,rfl,rfl⟩:=(r.st q _ hq).cells
 have s0:=r.s0
 have p0:=r.p0
 have hb:=hS.b
 have hql:q<Δ.D.length:=(List.getElem?_eq_some_iff.1 hq).1
 have hq0:(0:Int)<=(q:Int):=by omega
 have hq1:(q:Int)<(Δ.D.length:Int):=by omega
 have Hr:=hd r
 have Hm:=hd m
 have Hun:=hd un
 have HX:=hd hX
 have HS:=hd hS
 have Hc:=hd (reach_any hS.b r m hX hn (show v<=e by omega) hz hS.lv hS.lb (by omega))
 have Hc2:=hd (fun(w1:World) (r1:Rdo w1 Δ) (m1:Mut w1 Δ (reachS Δ σ h n v z))=>reach_any hS.b r1 m1 (show(reachS Δ σ h n v z).X h=some (b,rb) by rw[reachS_X];exact hX) ho (show v<=e2 by omega) hz hS.lv hS.lb (by have:=reachS_Q Δ σ h n v z;omega))
 clear r m un hX hS hq hn ho
 go_enter Tryz.func111,Tryz.ntmps111
 go_wp2_with fail
 refine Hc.out.mono ?_
 rintro e1 w1 ⟨rfl,m1,k1⟩
 have r1:=Hr.out.kp hb k1
 have Hc3:=hd (Hc2.out w1 r1 m1)
 have d11:w1.cell? ⟨Δ.G,q*14+11,none⟩=some (.int .i64 o):=k1.fcell hb.bG hb.nG hb.mG c11
 have Hk1:=hd k1
 clear r1 m1 k1 c0 c9 c10 c11 c12 c13
 go_wp2_with fail
 refine Hc3.out.mono ?_
 rintro e2 w2 ⟨rfl,m2,k2⟩
 have HF:Hid (MutP w w2 Δ σ (folS Δ σ h (.fork n o) d v z)):=hd (MutP.of m2 (fun h' br hx=>ext_reach _ _ _ _ _ _ _ _ (ext_reach _ _ _ _ _ _ _ _ hx)) ((Hun.out.reach HX.out n v z).reach (show(reachS Δ σ h n v z).X h=some (b,rb) by rw[reachS_X];exact HX.out) o v z) (Hk1.out.trans k2))
 clear m2 k2
 go_wp2
 go_end0
 exact⟨rfl,HF.out⟩
theorem follow_gain{w:World}{Δ:Cg}{σ:Ss}(hS:Sure Δ)(r:Rdo w Δ)(m:Mut w Δ σ)(un:Un σ){h:Hd}{b rb:Nat}(hX:σ.X h=some (b,rb)){q d v z:Nat}{n:Nat}(hq:Δ.D[q]?=some (.gain n,d)){y:Sk}{e:Nat}(hn:Δ.D[n]?=some (y,e))(hde:d-1<=e)(hd1:1<=d)(hv:v<=d)(hz:z<2^25)(hQ:σ.Q.length<=9000000000000):
  Calls Tryz.prog 111 #[.pointer (some ⟨Δ.S,0,none⟩),.pointer (some ⟨b,0,none⟩),.int .i64 q,.int .i64 v,.int .u32 z] w fun e w'=>e= .returned (.tuple #[])/\MutP w w' Δ σ (folS Δ σ h (.gain n) d v z):=by
 obtain⟨k,sl,nx,ot,c0,c9,c10,c11,c12,c13,rfl,rfl⟩:=(r.st q _ hq).cells
 have s0:=r.s0
 have p0:=r.p0
 have hb:=hS.b
 have hql:q<Δ.D.length:=(List.getElem?_eq_some_iff.1 hq).1
 have hq0:(0:Int)<=(q:Int):=by omega
 have hq1:(q:Int)<(Δ.D.length:Int):=by omega
 have Hr:=hd r
 have Hm:=hd m
 have Hun:=hd un
 have HX:=hd hX
 have HS:=hd hS
 have hdm:=hS.dm q _ hq
 simp only at hdm
 by_cases hvd:v=d
 ·have Hc:=hd (reach_any hS.b r m hX hn (show v-1<=e by omega) hz hS.lv hS.lb (by omega))
  subst hvd
  have hvi:((v:Nat):Int)-1=((v-1:Nat):Int):=by omega
  generalize hv1:v-1=v1 at*
  have Hv1:=hd hv1
  clear hv1
  clear r m un hX hS hq hn
  go_enter Tryz.func111,Tryz.ntmps111
  go_wp2_with fail
  refine Hc.out.mono ?_
  rintro e1 w1 ⟨rfl,m1,k1⟩
  have HF:Hid (MutP w w1 Δ σ (folS Δ σ h (.gain n) v v z)):=hd (by
   show MutP w w1 Δ σ (if v=v then reachS Δ σ h n (v-1) z else σ)
   rw[if_pos rfl,Hv1.out]
   exact MutP.of m1 (ext_reach _ _ _ _ _ _) (Hun.out.reach HX.out n v1 z) k1)
  clear m1 k1
  go_wp2
  go_end0
  exact⟨rfl,HF.out⟩
 ·have hne:((v:Int)==(d:Int))=false:=by simp;omega
  have HF:Hid (MutP w w Δ σ (folS Δ σ h (.gain n) d v z)):=hd (by
   show MutP w w Δ σ (if v=d then reachS Δ σ h n (v-1) z else σ)
   rw[if_neg hvd]
   exact MutP.of m (fun _ _ h=>h) un (Kp.refl _ _))
  clear r m un hX hS hq hn hvd
  go_enter Tryz.func111,Tryz.ntmps111
  go_wp2
  go_end0
  exact⟨rfl,HF.out⟩
theorem follow_bck{w:World}{Δ:Cg}{σ:Ss}(hS:Sure Δ)(r:Rdo w Δ)(m:Mut w Δ σ)(un:Un σ){h:Hd}{b rb:Nat}(hX:σ.X h=some (b,rb)){q d v z:Nat}{s n:Nat}(hq:Δ.D[q]?=some (.bck s n,d))(hs:s<Δ.k){y:Sk}{e:Nat}(hn:Δ.D[n]?=some (y,e))(hde:d<=e)(hv:v<=d)(hz:z<2^25)(hQ:σ.Q.length<=9000000000000):
  Calls Tryz.prog 111 #[.pointer (some ⟨Δ.S,0,none⟩),.pointer (some ⟨b,0,none⟩),.int .i64 q,.int .i64 v,.int .u32 z] w fun e w'=>e= .returned (.tuple #[])/\MutP w w' Δ σ (folS Δ σ h (.bck s n) d v z):=by
 obtain⟨k,sl,nx,ot,c0,c9,c10,c11,c12,c13,rfl,rfl,rfl⟩:=(r.st q _ hq).cells
 have s0:=r.s0
 have p0:=r.p0
 have hb:=hS.b
 have hql:q<Δ.D.length:=(List.getElem?_eq_some_iff.1 hq).1
 have hq0:(0:Int)<=(q:Int):=by omega
 have hq1:(q:Int)<(Δ.D.length:Int):=by omega
 have Hr:=hd r
 have Hm:=hd m
 have Hun:=hd un
 have HX:=hd hX
 have HS:=hd hS
 have Hc:=hd (followBack_any hS r m hX hq (show s<2 by have:=hS.k12;omega) hn hde hv hz (by omega))
 clear r m un hX hS hq hn
 go_enter Tryz.func111,Tryz.ntmps111
 go_wp2_with fail
 refine Hc.out.mono ?_
 rintro e1 w1 ⟨rfl,m1,k1⟩
 have HF:Hid (MutP w w1 Δ σ (folS Δ σ h (.bck s n) d v z)):=hd (by
  show MutP w w1 Δ σ (backS Δ σ h s n d v z)
  refine MutP.of m1 (fun h' br hx=>?_) ?_ k1
  ·unfold backS
   split
   ·exact hx
   ·exact ext_reach _ _ _ _ _ _ _ _ hx
  ·unfold backS
   split
   ·exact Hun.out
   ·exact Hun.out.reach HX.out _ _ _)
 clear m1 k1
 go_wp2
 go_end0
 exact⟨rfl,HF.out⟩
theorem follow_opn{w:World}{Δ:Cg}{σ:Ss}(hS:Sure Δ)(r:Rdo w Δ)(m:Mut w Δ σ)(un:Un σ){h:Hd}{b rb:Nat}(hX:σ.X h=some (b,rb)){q d v z:Nat}{s n:Nat}(hq:Δ.D[q]?=some (.opn s n,d))(hs:s<Δ.k){y:Sk}{e:Nat}(hn:Δ.D[n]?=some (y,e))(hde:d<=e)(hv:v<=d)(hz:z<2^25)(hQ:σ.Q.length<=9000000000000):
  Calls Tryz.prog 111 #[.pointer (some ⟨Δ.S,0,none⟩),.pointer (some ⟨b,0,none⟩),.int .i64 q,.int .i64 v,.int .u32 z] w fun e w'=>e= .returned (.tuple #[])/\MutP w w' Δ σ (folS Δ σ h (.opn s n) d v z):=by
 obtain⟨k,sl,nx,ot,c0,c9,c10,c11,c12,c13,rfl,rfl,rfl⟩:=(r.st q _ hq).cells
 have s0:=r.s0
 have p0:=r.p0
 have hb:=hS.b
 have hql:q<Δ.D.length:=(List.getElem?_eq_some_iff.1 hq).1
 have hq0:(0:Int)<=(q:Int):=by omega
 have hq1:(q:Int)<(Δ.D.length:Int):=by omega
 have Hr:=hd r
 have Hm:=hd m
 have Hun:=hd un
 have HX:=hd hX
 have HS:=hd hS
 have Hc:=hd (followOpen_any hS r m un hX hq hs hn hde hv hz hQ)
 clear r m un hX hS hq hn
 go_enter Tryz.func111,Tryz.ntmps111
 go_wp2_with fail
 refine Hc.out.mono ?_
 rintro e1 w1 ⟨rfl,m1⟩
 have HF:Hid (MutP w w1 Δ σ (folS Δ σ h (.opn s n) d v z)):=hd m1
 clear m1
 go_wp2
 go_end0
 exact⟨rfl,HF.out⟩
theorem follow_shut{w:World}{Δ:Cg}{σ:Ss}(hS:Sure Δ)(r:Rdo w Δ)(m:Mut w Δ σ)(un:Un σ){h:Hd}{b rb:Nat}(hX:σ.X h=some (b,rb)){q d v z:Nat}{s n:Nat}(hq:Δ.D[q]?=some (.shut s n,d))(hs:s<Δ.k){a:Nat}(ha:getH h s=1+a)(hal:∀t,z.testBit t=true->t<=Δ.ln.size->a<=t){y:Sk}{e:Nat}(hn:Δ.D[n]?=some (y,e))(hde:d<=e)(hv:v<=d)(hz:z<2^25)(hQ:σ.Q.length<=9000000000000):
  Calls Tryz.prog 111 #[.pointer (some ⟨Δ.S,0,none⟩),.pointer (some ⟨b,0,none⟩),.int .i64 q,.int .i64 v,.int .u32 z] w fun e w'=>e= .returned (.tuple #[])/\MutP w w' Δ σ (folS Δ σ h (.shut s n) d v z):=by
 obtain⟨k,sl,nx,ot,c0,c9,c10,c11,c12,c13,rfl,rfl,rfl⟩:=(r.st q _ hq).cells
 have s0:=r.s0
 have p0:=r.p0
 have hb:=hS.b
 have hql:q<Δ.D.length:=(List.getElem?_eq_some_iff.1 hq).1
 have hq0:(0:Int)<=(q:Int):=by omega
 have hq1:(q:Int)<(Δ.D.length:Int):=by omega
 have Hr:=hd r
 have Hm:=hd m
 have Hun:=hd un
 have HX:=hd hX
 have HS:=hd hS
 have Hc:=hd (followShut_any hS r m un hX hq hs ha hal hn hde hv hz hQ)
 have hga:getH h s-1=a:=by omega
 clear r m un hX hS hq hn
 go_enter Tryz.func111,Tryz.ntmps111
 go_wp2_with fail
 refine Hc.out.mono ?_
 rintro e1 w1 ⟨rfl,m1⟩
 have HF:Hid (MutP w w1 Δ σ (folS Δ σ h (.shut s n) d v z)):=hd (by show MutP w w1 Δ σ (gGo Δ z (fun t=>setH h s (26+Δ.P.num (getH h s-1) t)) n v (Δ.ln.size+1) σ);rw[hga];exact m1)
 clear m1
 go_wp2
 go_end0
 exact⟨rfl,HF.out⟩
end Go.Proofs.YtldiemjlpnachaaGreatDoor
namespace Go.Proofs.YtldiemjlpnachaaGreatDoor
open Go.RowKit
theorem follow_one{w:World}{Δ:Cg}{σ:Ss}(hS:Sure Δ)(r:Rdo w Δ)(m:Mut w Δ σ)(un:Un σ){h:Hd}{b rb:Nat}(hX:σ.X h=some (b,rb)){q d v z:Nat}{f:Nat->Bool}{n:Nat}(hq:Δ.D[q]?=some (.one f n,d)){y:Sk}{e:Nat}(hn:Δ.D[n]?=some (y,e))(hde:d<=e)(_:v<=d)(hz:z<2^25)(hQ:σ.Q.length<=9000000000000):
  Calls Tryz.prog 111 #[.pointer (some ⟨Δ.S,0,none⟩),.pointer (some ⟨b,0,none⟩),.int .i64 q,.int .i64 v,.int .u32 z] w fun e w'=>e= .returned (.tuple #[])/\MutP w w' Δ σ (folS Δ σ h (.one f n) d v z):=by
 obtain⟨k,sl,nx,ot,c0,c9,c10,c11,c12,c13,rfl,rfl⟩:=(r.st q _ hq).cells
 have s0:=r.s0
 have p0:=r.p0
 have hb:=hS.b
 have hql:q<Δ.D.length:=(List.getElem?_eq_some_iff.1 hq).1
 have hq0:(0:Int)<=(q:Int):=by omega
 have hq1:(q:Int)<(Δ.D.length:Int):=by omega
 have Hr:=hd r
 have Hm:=hd m
 have Hun:=hd un
 have HX:=hd hX
 have HS:=hd hS
 obtain⟨fc,s628⟩:=r.s628
 have cft:=r.ft q f n d hq
 have hfl:=Nat.lt_of_lt_of_le (bf_lt (fun i=>f (ch Δ.ln.data.toList i)) Δ.ln.size) (Nat.pow_le_pow_right (by omega) (show Δ.ln.size<=25 by have:=hS.l24;omega))
 have hst:=shl_small (z:=z&&&bf (fun i=>f (ch Δ.ln.data.toList i)) Δ.ln.size) (k:=1) (fun i hi=>by
  rw[Nat.testBit_and,bf_bit]at hi
  simp at hi
  have:=hS.l24
  omega)
 have Hw:Hid (IntKind.u32.wrap (bits .and .u32 (z:Int) (bf (fun i=>f (ch Δ.ln.data.toList i)) Δ.ln.size:Int)*2)=(((z&&&bf (fun i=>f (ch Δ.ln.data.toList i)) Δ.ln.size)<<<1:Nat):Int)):=hd (shl_wrap hz hfl hst)
 have Hreach:=hd (fun(W:World) (hW:Rdo W Δ) (hM:Mut W Δ σ)=>reach_any hS.b hW hM hX hn hde hst hS.lv hS.lb (by omega))
 have HF:Hid (∀w3,Mut w3 Δ (reachS Δ σ h n d ((z&&&bf (fun i=>f (ch Δ.ln.data.toList i)) Δ.ln.size)<<<1))->Kp w w3 Δ->MutP w w3 Δ σ (folS Δ σ h (.one f n) d v z)):=hd (fun w3 m3 k3=>MutP.of m3 (ext_reach _ _ _ _ _ _) (Hun.out.reach HX.out _ _ _) k3)
 clear r m un hX hS hq hn hfl hst
 generalize bf (fun i=>f (ch Δ.ln.data.toList i)) Δ.ln.size=fz at*
 go_enter Tryz.func111,Tryz.ntmps111
 go_wp2_with fail
 go_region_held3 (fun w'=>w'.cell? ⟨Δ.G,q*14+10,none⟩=some (.int .i64 n)/\w'.cell? ⟨Δ.G,q*14+12,none⟩=some (.int .i64 d)/\w'.cell? ⟨Δ.S,628,none⟩=some (.slice (some ⟨Δ.FB,0,none⟩) Δ.D.length fc)/\w'.cell? ⟨Δ.FB,q,none⟩=some (.int .u32 fz)) (go_keep)
  ((go_at_call 89;rw[Hw.out];refine(Hreach.out _ (by exact Hr.out.kp hb (Kp.refl _ Δ).drew) (by exact Hm.out.drew)).mono ?_;rintro e w3 ⟨rfl,hm3,hk3⟩;have z10:w3.cell? ⟨Δ.G,q*14+10,none⟩=some (.int .i64 n):=hk3.fcell hb.bG hb.nG hb.mG (by exact c10);have z12:w3.cell? ⟨Δ.G,q*14+12,none⟩=some (.int .i64 d):=hk3.fcell hb.bG hb.nG hb.mG (by exact c12);have z628:w3.cell? ⟨Δ.S,628,none⟩=some (.slice (some ⟨Δ.FB,0,none⟩) Δ.D.length fc):=(hk3.cell 628 (by omega)).trans (by exact s628);have zft:w3.cell? ⟨Δ.FB,q,none⟩=some (.int .u32 fz):=hk3.fcell hb.bF hb.nF hb.mF (by exact cft)))
 have HG:=hd (HF.out w3 hm3 ((Kp.refl w Δ).drew.trans hk3))
 clear hm3 hk3 z10 z12 z628 zft
 go_wp2
 go_end0
 exact⟨rfl,HG.out⟩
theorem follow_beg{w:World}{Δ:Cg}{σ:Ss}(hS:Sure Δ)(r:Rdo w Δ)(m:Mut w Δ σ)(un:Un σ){h:Hd}{b rb:Nat}(hX:σ.X h=some (b,rb)){q d v z:Nat}{n:Nat}(hq:Δ.D[q]?=some (.beg n,d)){y:Sk}{e:Nat}(hn:Δ.D[n]?=some (y,e))(hde:d<=e)(hv:v<=d)(hz:z<2^25)(hQ:σ.Q.length<=9000000000000):
  Calls Tryz.prog 111 #[.pointer (some ⟨Δ.S,0,none⟩),.pointer (some ⟨b,0,none⟩),.int .i64 q,.int .i64 v,.int .u32 z] w fun e w'=>e= .returned (.tuple #[])/\MutP w w' Δ σ (folS Δ σ h (.beg n) d v z):=by
 obtain⟨k,sl,nx,ot,c0,c9,c10,c11,c12,c13,rfl,rfl⟩:=(r.st q _ hq).cells
 have s0:=r.s0
 have p0:=r.p0
 have hb:=hS.b
 have hql:q<Δ.D.length:=(List.getElem?_eq_some_iff.1 hq).1
 have hq0:(0:Int)<=(q:Int):=by omega
 have hq1:(q:Int)<(Δ.D.length:Int):=by omega
 have Hr:=hd r
 have Hm:=hd m
 have Hun:=hd un
 have HX:=hd hX
 have HS:=hd hS
 have hst:z&&&2^0<2^25:=Nat.lt_of_le_of_lt Nat.and_le_left hz
 have Hand:Hid (bits .and .u32 (z:Int) 1=((z&&&2^0:Nat):Int)):=hd (u32_and_nat z 1 (p25 hz) (by decide))
 have Hon:=hd (fun W:World=>only_any W (0:Nat) 0 rfl (show 0<=25 by have:=hS.l24;omega))
 have Hreach:=hd (fun(W:World) (hW:Rdo W Δ) (hM:Mut W Δ σ)=>reach_any hS.b hW hM hX hn (show v<=e by omega) hst hS.lv hS.lb (by omega))
 have HF:Hid (∀w3,Mut w3 Δ (reachS Δ σ h n v (z&&&2^0))->Kp w w3 Δ->MutP w w3 Δ σ (folS Δ σ h (.beg n) d v z)):=hd (fun w3 m3 k3=>MutP.of m3 (ext_reach _ _ _ _ _ _) (Hun.out.reach HX.out _ _ _) k3)
 clear r m un hX hS hq hn hst
 go_enter Tryz.func111,Tryz.ntmps111
 go_wp2_with fail
 go_region_held3 (fun w'=>w'.cell? ⟨Δ.G,q*14+10,none⟩=some (.int .i64 n)) (go_keep)
  ((first
   |(go_at_call 90;refine(Hon.out _).mono ?_;rintro e2 w2 ⟨rfl,rfl⟩)
   |(go_at_call 89;rw[Hand.out];refine(Hreach.out _ (by exact Hr.out.kp hb (Kp.refl _ Δ).drew) (by exact Hm.out.drew)).mono ?_;rintro e w3 ⟨rfl,hm3,hk3⟩;have z10:w3.cell? ⟨Δ.G,q*14+10,none⟩=some (.int .i64 n):=hk3.fcell hb.bG hb.nG hb.mG (by exact c10))))
 have HG:=hd (HF.out w3 hm3 ((Kp.refl w Δ).drew.trans hk3))
 clear hm3 hk3 z10
 go_wp2
 go_end0
 exact⟨rfl,HG.out⟩
theorem follow_fin{w:World}{Δ:Cg}{σ:Ss}(hS:Sure Δ)(r:Rdo w Δ)(m:Mut w Δ σ)(un:Un σ){h:Hd}{b rb:Nat}(hX:σ.X h=some (b,rb)){q d v z:Nat}{n:Nat}(hq:Δ.D[q]?=some (.fin n,d)){y:Sk}{e:Nat}(hn:Δ.D[n]?=some (y,e))(hde:d<=e)(hv:v<=d)(hz:z<2^25)(hQ:σ.Q.length<=9000000000000):
  Calls Tryz.prog 111 #[.pointer (some ⟨Δ.S,0,none⟩),.pointer (some ⟨b,0,none⟩),.int .i64 q,.int .i64 v,.int .u32 z] w fun e w'=>e= .returned (.tuple #[])/\MutP w w' Δ σ (folS Δ σ h (.fin n) d v z):=by
 obtain⟨k,sl,nx,ot,c0,c9,c10,c11,c12,c13,rfl,rfl⟩:=(r.st q _ hq).cells
 have s0:=r.s0
 have p0:=r.p0
 have hb:=hS.b
 have hql:q<Δ.D.length:=(List.getElem?_eq_some_iff.1 hq).1
 have hq0:(0:Int)<=(q:Int):=by omega
 have hq1:(q:Int)<(Δ.D.length:Int):=by omega
 have Hr:=hd r
 have Hm:=hd m
 have Hun:=hd un
 have HX:=hd hX
 have HS:=hd hS
 have hst:z&&&2^Δ.ln.size<2^25:=Nat.lt_of_le_of_lt Nat.and_le_left hz
 have Hand:Hid (bits .and .u32 (z:Int) (2^Δ.ln.size)=((z&&&2^Δ.ln.size:Nat):Int)):=hd (by
  have:=u32_and_nat z (2^Δ.ln.size) (p25 hz) (two_lt (show Δ.ln.size<=25 by have:=hS.l24;omega))
  rw[Int.natCast_pow]at this
  exact this)
 have Hon:=hd (fun W:World=>only_any W (Δ.ln.size:Nat) Δ.ln.size rfl (show Δ.ln.size<=25 by have:=hS.l24;omega))
 have Hreach:=hd (fun(W:World) (hW:Rdo W Δ) (hM:Mut W Δ σ)=>reach_any hS.b hW hM hX hn (show v<=e by omega) hst hS.lv hS.lb (by omega))
 have HF:Hid (∀w3,Mut w3 Δ (reachS Δ σ h n v (z&&&2^Δ.ln.size))->Kp w w3 Δ->MutP w w3 Δ σ (folS Δ σ h (.fin n) d v z)):=hd (fun w3 m3 k3=>MutP.of m3 (ext_reach _ _ _ _ _ _) (Hun.out.reach HX.out _ _ _) k3)
 have s1:=r.s1
 clear r m un hX hS hq hn hst
 go_enter Tryz.func111,Tryz.ntmps111
 go_wp2_with fail
 go_region_held3 (fun w'=>w'.cell? ⟨Δ.G,q*14+10,none⟩=some (.int .i64 n)/\w'.cell? ⟨Δ.S,1,none⟩=some (.string Δ.ln)) (go_keep)
  ((first
   |(go_at_call 90;refine(Hon.out _).mono ?_;rintro e2 w2 ⟨rfl,rfl⟩)
   |(go_at_call 89;rw[Hand.out];refine(Hreach.out _ (by exact Hr.out.kp hb (Kp.refl _ Δ).drew) (by exact Hm.out.drew)).mono ?_;rintro e w3 ⟨rfl,hm3,hk3⟩;have z10:w3.cell? ⟨Δ.G,q*14+10,none⟩=some (.int .i64 n):=hk3.fcell hb.bG hb.nG hb.mG (by exact c10);have zs1:w3.cell? ⟨Δ.S,1,none⟩=some (.string Δ.ln):=(hk3.cell 1 (by omega)).trans (by exact s1))))
 have HG:=hd (HF.out w3 hm3 ((Kp.refl w Δ).drew.trans hk3))
 clear hm3 hk3 z10 zs1
 go_wp2
 go_end0
 exact⟨rfl,HG.out⟩
end Go.Proofs.YtldiemjlpnachaaGreatDoor

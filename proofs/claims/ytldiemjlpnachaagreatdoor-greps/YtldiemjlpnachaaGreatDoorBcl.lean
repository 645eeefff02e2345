import Derived.Test.YtldiemjlpnachaaGreatDoorBth
import Derived.Test.YtldiemjlpnachaaGreatDoorPike
set_option maxHeartbeats 3200000
set_option maxRecDepth 100000
namespace Go.Proofs.YtldiemjlpnachaaGreatDoor
open Go.RowKit
theorem vh_get{Δ:Cg}{h:Hd}(hv:Vh Δ h)(s:Nat):getH h s<Δ.K:=by
 unfold getH
 split
 ·exact hv.1
 ·exact hv.2.1
theorem follow_any{w:World}{Δ:Cg}{G:Nat->Nat->Bool}{Rch:Nd->Prop}{σ:Ss}(F:Fix Δ G Rch)(r:Rdo w Δ)(m:Mut w Δ σ)(un:Un σ)(iv:Iv Δ G Rch σ){h:Hd}{b rb:Nat}(hX:σ.X h=some (b,rb)){q d v z:Nat}{x:Sk}(hq:Δ.D[q]?=some (x,d))(hv:v<=d)(hzr:z=σ.rc h (fi Δ.D q+v))(hnz:z≠0)(hQ:σ.Q.length<=9000000000000):
  Calls Tryz.prog 111 #[.pointer (some ⟨Δ.S,0,none⟩),.pointer (some ⟨b,0,none⟩),.int .i64 q,.int .i64 v,.int .u32 z] w fun e w'=>e= .returned (.tuple #[])/\MutP w w' Δ σ (folS Δ σ h x d v z):=by
 have hz:z<2^25:=by rw[hzr];exact iv.low _ _
 have ty:=F.ty q (List.getElem?_eq_some_iff.1 hq).1
 have hin:∀t,z.testBit t=true->InR Δ σ ⟨h,q,v,t⟩:=fun t ht=>⟨x,d,hq,hv,by rw[<-hzr];exact ht⟩
 have k12:=F.sure.k12
 have tg:=ty x d hq
 cases x with
 |done=>exact follow_done F.sure r m un hX hq hv hz hQ
 |one f n=>
  obtain⟨k2,e2,hn,hde,_⟩:=tg
  exact follow_one F.sure r m un hX hq hn hde hv hz hQ
 |beg n=>
  obtain⟨k2,e2,hn,hde,_⟩:=tg
  exact follow_beg F.sure r m un hX hq hn hde hv hz hQ
 |fin n=>
  obtain⟨k2,e2,hn,hde,_⟩:=tg
  exact follow_fin F.sure r m un hX hq hn hde hv hz hQ
 |fork n o=>
  obtain⟨⟨k2,e2,hn,hde,_⟩,⟨k3,e3,ho3,hde3,_⟩⟩:=tg
  exact follow_fork F.sure r m un hX hq hn hde ho3 hde3 hv hz hQ
 |opn s n=>
  obtain⟨hs,k2,e2,hn,hde,_⟩:=tg
  exact follow_opn F.sure r m un hX hq hs hn hde hv hz hQ
 |shut s n=>
  obtain⟨hs,hG,k2,e2,hn,hde,_⟩:=tg
  obtain⟨t0,ht0⟩:∃t,z.testBit t=true:=by
   rcases Classical.em (∃t,z.testBit t=true)with c|c
   ·exact c
   ·exact absurd (Nat.eq_of_testBit_eq (fun t=>by
     rw[Nat.zero_testBit]
     cases hb:z.testBit t with
     |false=>rfl
     |true=>exact absurd ⟨t,hb⟩ c)) hnz
  obtain⟨a,ha,_⟩:=(iv.opn _ (hin t0 ht0)).2 s (by omega) hG
  simp only at ha
  refine follow_shut F.sure r m un hX hq hs ha (fun t ht _=>?_) hn hde hv hz hQ
  obtain⟨a',h1,h2⟩:=(iv.opn _ (hin t ht)).2 s (by omega) hG
  simp only at h1 h2
  omega
 |bck s n=>
  obtain⟨hs,k2,e2,hn,hde,_⟩:=tg
  exact follow_bck F.sure r m un hX hq hs hn hde hv hz hQ
 |gain n=>
  obtain⟨hd1,k2,e2,hn,hde,_⟩:=tg
  exact follow_gain F.sure r m un hX hq hn hde hd1 hv hz hQ
structure Goes(w0 w:World)(Δ:Cg)(G:Nat->Nat->Bool)(Rch:Nd->Prop)(σ0 σ:Ss)(ex:Nd->Prop):Prop where
 m:Mut w Δ σ
 iv:Iv Δ G Rch σ
 cl:ClE Δ σ ex
 pg:Pg Δ σ0 σ
 up:Up Δ σ0 σ
 xt:Ext σ0 σ
 un:Un σ
 k:Kp w0 w Δ
theorem EqP.upL{Δ:Cg}{σ0 σ σ':Ss}(e:EqP σ σ')(u:Up Δ σ0 σ):Up Δ σ0 σ':=
 ⟨fun x hx=>(e.inR x).1 (u.rc x hx),fun h=>by rw[<-e.tp];exact u.tp h,fun h hw=>by rw[<-e.wt];exact u.wt h hw,fun hf=>by rw[<-e.fd,<-e.to_];exact u.fd hf,fun x hx=>by rw[<-e.tp,<-e.wt];exact u.nw x ((e.inR x).2 hx)⟩
theorem Goes.fol{w0 w w':World}{Δ:Cg}{G:Nat->Nat->Bool}{Rch:Nd->Prop}{σ0 σ:Ss}(F:Fix Δ G Rch){h:Hd}{b rb q d v z:Nat}{x:Sk}(hX:σ.X h=some (b,rb))(hq:Δ.D[q]?=some (x,d))(hv:v<=d)(g:Goes w0 w Δ G Rch σ0 σ (Lv h q v))(hzr:z=σ.rc h (fi Δ.D q+v))(hnz:z≠0)(mp:MutP w w' Δ σ (folS Δ σ h x d v z)):∃σ',Goes w0 w' Δ G Rch σ0 σ' (Lv h q (v+1)):=by
 obtain⟨σ',m',e',x',u',k'⟩:=mp
 have vh:=(g.m.st h b rb hX).vh
 obtain⟨iv2,up2,_⟩:=g.iv.fol F hq hv hzr hnz (vh_get vh)
 have pg2:=pg_fol F g.iv hq hv hzr vh
 have cl2:=ClE.level F g.iv hq hv (vh_get vh) g.cl (by rw[<-hzr];exact hnz)
 rw[<-hzr]at cl2
 exact⟨σ',m',e'.symm.iv iv2,e'.symm.clE cl2,e'.symm.pg (g.pg.trans pg2),e'.symm.upL (g.up.trans up2),fun h' br hb=>x' h' br (g.xt h' br hb),u',g.k.trans k'⟩
theorem followStep_any{w:World}{Δ:Cg}{G:Nat->Nat->Bool}{Rch:Nd->Prop}{σ:Ss}(F:Fix Δ G Rch)(r:Rdo w Δ){h:Hd}{b rb:Nat}(hX:σ.X h=some (b,rb)){q d:Nat}{x:Sk}(hq:Δ.D[q]?=some (x,d))(g:Goes w w Δ G Rch σ σ (Lv h q 0))(hQ:σ.Q.length+Phi Δ σ<=9000000000000):
  Calls Tryz.prog 109 #[.pointer (some ⟨Δ.S,0,none⟩),.pointer (some ⟨b,0,none⟩),.int .i64 q] w fun e w'=>e= .returned (.tuple #[])/\∃σ',Goes w w' Δ G Rch σ σ' (fun _=>False):=by
 have s0:=r.s0
 have p0:=r.p0
 have hb:=F.sure.b
 have hdm:=F.sure.dm q _ hq
 have hlb:=F.sure.lb
 have hlv:=F.sure.lv
 simp only at hdm
 have hfl:=fi_lt hq (Nat.le_refl d)
 rw[<-hlv]at hfl
 have hql:q<Δ.D.length:=(List.getElem?_eq_some_iff.1 hq).1
 have hq0:(0:Int)<=(q:Int):=by omega
 have hq1:(q:Int)<(Δ.D.length:Int):=by omega
 have hfb:(fi Δ.D q:Int)+(d:Int)<(Δ.lv:Int):=by omega
 have hf0:(0:Int)<=(fi Δ.D q:Int):=by omega
 have Hr:=hd r
 have HF:=hd F
 have HX:=hd hX
 have Hq:=hd hq
 have Hg:=hd g
 have Hfl:=hd hfl
 clear r F hX hq g hlv hfl
 go_enter Tryz.func109,Tryz.ntmps109
 go_wp2
 go_loopg [7] (d+2) (fun f lv wr=>∃(t:Nat) (σt:Ss),lv= .int .i64 t/\t<=d+1/\d+1<t+f/\Hid (Goes w wr Δ G Rch σ σt (Lv h q t)))
 case atStart=>exact⟨0,σ,rfl,by omega,by omega,Hg⟩
 case round=>
  obtain⟨t,σt,rfl,ht,hf,HG⟩:=hrel
  have hr:=Hr.out.kp hb HG.out.k
  obtain⟨kk,sl,nx,ot,c0,c9,c10,c11,c12,c13,hmt⟩:=(hr.st q _ Hq.out).cells
  clear hmt
  have hXt:=HG.out.xt h _ HX.out
  have st:=HG.out.m.st h b rb hXt
  have k2:=st.c2
  by_cases hlt:t<d+1
  ·have kr:=st.rc (fi Δ.D q+t) (by have:=Hfl.out;omega)
   have hti:(t:Int)<=(d:Int):=by omega
   have hmi:(fi Δ.D q:Int)+(t:Int)=((fi Δ.D q+t:Nat):Int):=by omega
   have hm1:((fi Δ.D q+t:Nat):Int)<(Δ.lv:Int):=by omega
   have hm0:(0:Int)<=((fi Δ.D q+t:Nat):Int):=by omega
   have hmb:((fi Δ.D q+t:Nat):Int)<=301000:=by omega
   by_cases hz0:σt.rc h (fi Δ.D q+t)=0
   ·rw[hz0]at kr
    have HN:Hid (Goes w wr Δ G Rch σ σt (Lv h q (t+1))):=hd ⟨HG.out.m,HG.out.iv,HG.out.cl.level0 hz0,HG.out.pg,HG.out.up,HG.out.xt,HG.out.un,HG.out.k⟩
    clear hr st hXt hz0 c0 c9 c10 c11
    generalize fi Δ.D q+t=mm at*
    go_wp2
    go_roundg (gk-1)
    case measure=>omega
    case rel=>exact⟨t+1,σt,by go_num,by omega,by omega,HN⟩
   ·have hQt:σt.Q.length<=9000000000000:=by have:=HG.out.pg.q;omega
    have Hc:=hd (follow_any HF.out hr HG.out.m HG.out.un HG.out.iv hXt Hq.out (show t<=d by omega) rfl hz0 hQt)
    have Hfol:=hd (fun(w':World) (mp:MutP wr w' Δ σt (folS Δ σt h x d t (σt.rc h (fi Δ.D q+t))))=>HG.out.fol HF.out hXt Hq.out (show t<=d by omega) rfl hz0 mp)
    have hne:(((σt.rc h (fi Δ.D q+t):Nat):Int) !=0)=true:=by simp only[bne_iff_ne,ne_eq];omega
    clear hr st hXt hz0 c0 c9 c10 c11 hQt
    generalize σt.rc h (fi Δ.D q+t)=zz at*
    generalize fi Δ.D q+t=mm at*
    go_wp2_with fail
    refine Hc.out.mono ?_
    rintro e1 w1 ⟨rfl,mp⟩
    obtain⟨σ',g'⟩:=Hfol.out w1 mp
    have HG':=hd g'
    clear mp g'
    go_wp2
    go_roundg (gk-1)
    case measure=>omega
    case rel=>exact⟨t+1,σ',by go_num,by omega,by omega,HG'⟩
  ·obtain rfl:t=d+1:=by omega
   have HN:Hid (Goes w wr Δ G Rch σ σt (fun _=>False)):=hd ⟨HG.out.m,HG.out.iv,HG.out.cl.all Hq.out,HG.out.pg,HG.out.up,HG.out.xt,HG.out.un,HG.out.k⟩
   clear hr st hXt c0 c9 c10 c11 c13
   go_wp2
   go_end0
   exact⟨rfl,σt,HN.out⟩
end Go.Proofs.YtldiemjlpnachaaGreatDoor
namespace Go.Proofs.YtldiemjlpnachaaGreatDoor
open Go.RowKit
structure Runs(w0 w:World)(Δ:Cg)(G:Nat->Nat->Bool)(Rch:Nd->Prop)(σ0 σ:Ss):Prop where
 m:Mut w Δ σ
 iv:Iv Δ G Rch σ
 cl:ClE Δ σ (fun _=>False)
 rc:∀x,InR Δ σ0 x->InR Δ σ x
 ph:Phi Δ σ<=Phi Δ σ0
 q:σ.Q.length+Phi Δ σ<=σ0.Q.length+Phi Δ σ0
 pre:∃l,σ.Q=σ0.Q++l/\∀h,σ.wt h=true->σ0.wt h=true\/h∈l
 tb:∀h,-1<=σ.tp h/\σ.tp h<Δ.D.length
 xt:Ext σ0 σ
 un:Un σ
 k:Kp w0 w Δ
theorem Pg.ph{Δ:Cg}{σ σ':Ss}(p:Pg Δ σ σ'):Phi Δ σ'<=Phi Δ σ:=by
 rcases p.same with h|h
 ·exact Nat.le_of_eq (Phi_eq h.1)
 ·omega
theorem Runs.down{w0 w:World}{Δ:Cg}{G:Nat->Nat->Bool}{Rch:Nd->Prop}{σ0 σ:Ss}(hb:Blk Δ)(g:Runs w0 w Δ G Rch σ0 σ){h:Hd}{b rb q:Nat}(hX:σ.X h=some (b,rb))(htp:σ.tp h=q)(t:Int)(ht:t=(q:Int)-1):
  Goes (w.setCell ⟨b,3,none⟩ (.int .i64 t)) (w.setCell ⟨b,3,none⟩ (.int .i64 t)) Δ G Rch {σ with tp:=fun h'=>if h'=h then t else σ.tp h'} {σ with tp:=fun h'=>if h'=h then t else σ.tp h'} (Lv h q 0)/\Kp w (w.setCell ⟨b,3,none⟩ (.int .i64 t)) Δ:=by
 obtain⟨m',k'⟩:=g.m.setT hb hX t
 refine⟨⟨m',⟨g.iv.low,g.iv.opn,g.iv.snd,g.iv.fnd⟩,fun y hy hn=>?_,Pg.refl _ _,Up.refl _ _,fun _ _ h=>h,fun h' hx=>?_,Kp.refl _ _⟩,k'⟩
 ·rcases g.cl y hy (fun h=>h)with⟨h1,h2⟩|h1
  ·refine .inl ⟨?_,h2⟩
   show(y.p:Int)<=if y.h=h then t else σ.tp y.h
   by_cases e:y.h=h
   ·rw[if_pos e]
    rw[e,htp]at h1
    have:y.p≠q:=fun e2=>hn ⟨e,e2,Nat.zero_le _⟩
    omega
   ·rw[if_neg e];exact h1
  ·exact .inr h1
 ·obtain⟨u1,u2,u3⟩:=g.un h' hx
  refine⟨u1,?_,u3⟩
  show(if h'=h then t else σ.tp h')=0
  rw[if_neg (fun e=>by have hx':σ.X h'=none:=hx;rw[e,hX]at hx';cases hx')]
  exact u2
theorem Runs.step{w0 w w1 w2:World}{Δ:Cg}{G:Nat->Nat->Bool}{Rch:Nd->Prop}{σ0 σ σ1 σ2:Ss}(g:Runs w0 w Δ G Rch σ0 σ){h:Hd}{t:Int}(e1:σ1= {σ with tp:=fun h'=>if h'=h then t else σ.tp h'})(ht: -1<=t/\t<Δ.D.length)(k1:Kp w w1 Δ)(s:Goes w1 w2 Δ G Rch σ1 σ2 (fun _=>False)):Runs w0 w2 Δ G Rch σ0 σ2:=by
 subst e1
 have hph:Phi Δ {σ with tp:=fun h'=>if h'=h then t else σ.tp h'}=Phi Δ σ:=Phi_eq rfl
 have tb1:∀h',-1<=(if h'=h then t else σ.tp h')/\(if h'=h then t else σ.tp h')<Δ.D.length:=fun h'=>by
  by_cases e:h'=h
  ·rw[if_pos e];exact ht
  ·rw[if_neg e];exact g.tb h'
 refine⟨s.m,s.iv,s.cl,fun x hx=>s.up.rc x (g.rc x hx),?_,?_,?_,fun h'=>⟨?_,s.pg.tb h' (tb1 h').2⟩,fun h' br hx=>s.xt h' br (g.xt h' br hx),s.un,g.k.trans (k1.trans s.k)⟩
 ·have:=s.pg.ph;rw[hph]at this;exact Nat.le_trans this g.ph
 ·have:=s.pg.q;rw[hph]at this;exact Nat.le_trans this g.q
 ·obtain⟨l,h1,h2⟩:=g.pre
  obtain⟨l2,h3,h4⟩:=s.pg.pre
  refine⟨l++l2,by rw[h3];show σ.Q++l2=_;rw[h1,List.append_assoc],fun h' hw=>?_⟩
  rcases h4 h' hw with h5|h5
  ·rcases h2 h' h5 with h6|h6
   ·exact .inl h6
   ·exact .inr (List.mem_append.2 (.inl h6))
  ·exact .inr (List.mem_append.2 (.inr h5))
 ·exact Int.le_trans (tb1 h').1 (s.up.tp h')
theorem Runs.rest{w0 w:World}{Δ:Cg}{G:Nat->Nat->Bool}{Rch:Nd->Prop}{σ0 σ:Ss}(hb:Blk Δ)(g:Runs w0 w Δ G Rch σ0 σ){h:Hd}{b rb:Nat}(hX:σ.X h=some (b,rb))(htp:σ.tp h<0):
  Runs w0 (w.setCell ⟨b,4,none⟩ (.bool false)) Δ G Rch σ0 {σ with wt:=fun h'=>if h'=h then false else σ.wt h'}:=by
 obtain⟨m',k'⟩:=g.m.setW hb hX false
 refine⟨m',⟨g.iv.low,g.iv.opn,g.iv.snd,g.iv.fnd⟩,fun y hy hn=>?_,g.rc,g.ph,g.q,?_,g.tb,g.xt,fun h' hx=>?_,g.k.trans k'⟩
 ·rcases g.cl y hy hn with⟨h1,h2⟩|h1
  ·left
   by_cases e:y.h=h
   ·rw[e]at h1;omega
   ·exact⟨h1,(if_neg e).trans h2⟩
  ·exact .inr h1
 ·obtain⟨l,h1,h2⟩:=g.pre
  refine⟨l,h1,fun h' hw=>?_⟩
  have hw':(if h'=h then false else σ.wt h')=true:=hw
  by_cases e:h'=h
  ·rw[if_pos e]at hw';cases hw'
  ·rw[if_neg e]at hw';exact h2 h' hw'
 ·obtain⟨u1,u2,u3⟩:=g.un h' hx
  refine⟨u1,u2,?_⟩
  show(if h'=h then false else σ.wt h')=false
  split
  ·rfl
  ·exact u3
theorem followSetting_any{w:World}{Δ:Cg}{G:Nat->Nat->Bool}{Rch:Nd->Prop}{σ:Ss}(F:Fix Δ G Rch)(r:Rdo w Δ){h:Hd}{b rb:Nat}(hX:σ.X h=some (b,rb))(g:Runs w w Δ G Rch σ σ)(hQ:σ.Q.length+Phi Δ σ<=9000000000000):
  Calls Tryz.prog 105 #[.pointer (some ⟨Δ.S,0,none⟩),.pointer (some ⟨b,0,none⟩)] w fun e w'=>e= .returned (.tuple #[])/\∃σ',Runs w w' Δ G Rch σ σ'/\σ'.wt h=false:=by
 have hb:=F.sure.b
 have hdl:=F.sure.dl
 have Hr:=hd r
 have HF:=hd F
 have HX:=hd hX
 have Hg:=hd g
 clear r F hX g
 go_enter Tryz.func105,Tryz.ntmps105
 go_wp2
 go_loopg [4] (Phi Δ σ*(Δ.D.length+2)+(σ.tp h+1).toNat+1) (fun f _ wr=>∃σt:Ss,Phi Δ σt*(Δ.D.length+2)+(σt.tp h+1).toNat<f/\Hid (Runs w wr Δ G Rch σ σt))
 case atStart=>exact⟨σ,Nat.lt_succ_self _,Hg⟩
 case round=>
  obtain⟨σt,hf,HG⟩:=hrel
  have hXt:=HG.out.xt h _ HX.out
  have st:=HG.out.m.st h b rb hXt
  have k3:=st.c3
  have fb3:=st.fb 3
  have fb4:=st.fb 4
  have k4:=st.c4
  obtain⟨tb1,tb2⟩:=HG.out.tb h
  by_cases htp:0<=σt.tp h
  ·obtain⟨q,hq⟩:=Int.eq_ofNat_of_zero_le htp
   have hql:q<Δ.D.length:=by rw[hq]at tb2;exact Int.ofNat_lt.1 tb2
   obtain⟨⟨x,d⟩,hx⟩:∃xd,Δ.D[q]?=some xd:=⟨Δ.D[q],List.getElem?_eq_getElem hql⟩
   obtain⟨g1,k1⟩:=HG.out.down hb hXt hq ((q:Int)-1) rfl
   have hr1:=Hr.out.kp hb (HG.out.k.trans k1)
   have hQ1:σt.Q.length+Phi Δ σt<=9000000000000:=by have:=HG.out.q;omega
   have Hc:=hd (followStep_any HF.out hr1 (σ:= {σt with tp:=fun h'=>if h'=h then(q:Int)-1 else σt.tp h'}) hXt hx g1 (by exact hQ1))
   have Hstep:=hd (fun(w2:World) (σ2:Ss) (s:Goes (wr.setCell ⟨b,3,none⟩ (.int .i64 ((q:Int)-1))) w2 Δ G Rch {σt with tp:=fun h'=>if h'=h then(q:Int)-1 else σt.tp h'} σ2 (fun _=>False))=>HG.out.step rfl (show-1<=(q:Int)-1/\(q:Int)-1<Δ.D.length by omega) k1 s)
   have Hms:Hid (∀σ2,Pg Δ {σt with tp:=fun h'=>if h'=h then(q:Int)-1 else σt.tp h'} σ2->(∀h',σ2.tp h'<Δ.D.length)->Phi Δ σ2*(Δ.D.length+2)+(σ2.tp h+1).toNat+1<gk):=hd (fun σ2 pg tb=>by
    have hp:Phi Δ {σt with tp:=fun h'=>if h'=h then(q:Int)-1 else σt.tp h'}=Phi Δ σt:=Phi_eq rfl
    rcases pg.same with⟨e1,e2,_,_⟩|e1
    ·have e3:Phi Δ σ2=Phi Δ σt:=(Phi_eq e1).trans hp
     have e4:σ2.tp h=(q:Int)-1:=by rw[e2];exact if_pos rfl
     rw[e3,e4]
     rw[hq]at hf
     omega
    ·rw[hp]at e1
     have e2:Phi Δ σ2*(Δ.D.length+2)+(Δ.D.length+2)<=Phi Δ σt*(Δ.D.length+2):=by
      have:=Nat.mul_le_mul_right (Δ.D.length+2) e1
      rw[Nat.succ_mul]at this
      exact this
     have e3:=tb h
     omega)
   rw[hq]at k3
   have hqb:(q:Int)<=1000:=by omega
   clear g1 k1 hr1 hx hXt st hq htp tb1 tb2 hf
   go_wp2_with fail
   refine Hc.out.mono ?_
   rintro e1 w2 ⟨rfl,σ2,s2⟩
   have g2:=Hstep.out w2 σ2 s2
   have hm2:=Hms.out σ2 s2.pg (fun h'=>(g2.tb h').2)
   have HG2:=hd g2
   clear s2 g2
   go_wp2
   go_roundg (gk-1)
   case measure=>omega
   case rel=>exact⟨σ2,by omega,HG2⟩
  ·have hneg:σt.tp h<0:=by omega
   have hres:=HG.out.rest hb hXt hneg
   have HR:=hd hres
   have hd0:decide (0<=σt.tp h)=false:=by simp;omega
   clear hres hXt st htp
   go_wp2
   go_end0
   exact⟨rfl,_,HR.out,if_pos rfl⟩
end Go.Proofs.YtldiemjlpnachaaGreatDoor
namespace Go.Proofs.YtldiemjlpnachaaGreatDoor
open Go.RowKit
theorem Runs.self{w0 w:World}{Δ:Cg}{G:Nat->Nat->Bool}{Rch:Nd->Prop}{σ0 σ:Ss}(g:Runs w0 w Δ G Rch σ0 σ):Runs w w Δ G Rch σ σ:=
 ⟨g.m,g.iv,g.cl,fun _ h=>h,Nat.le_refl _,Nat.le_refl _,⟨[],by simp,fun _ h=> .inl h⟩,g.tb,fun _ _ h=>h,g.un,Kp.refl _ _⟩
theorem Runs.trans{w0 w1 w2:World}{Δ:Cg}{G:Nat->Nat->Bool}{Rch:Nd->Prop}{σ0 σ1 σ2:Ss}(g:Runs w0 w1 Δ G Rch σ0 σ1)(k:Runs w1 w2 Δ G Rch σ1 σ2):Runs w0 w2 Δ G Rch σ0 σ2:=by
 obtain⟨l,h1,h2⟩:=g.pre
 obtain⟨l2,h3,h4⟩:=k.pre
 refine⟨k.m,k.iv,k.cl,fun x hx=>k.rc x (g.rc x hx),Nat.le_trans k.ph g.ph,Nat.le_trans k.q g.q,⟨l++l2,by rw[h3,h1,List.append_assoc],fun h' hw=>?_⟩,k.tb,fun h br hx=>k.xt h br (g.xt h br hx),k.un,g.k.trans k.k⟩
 rcases h4 h' hw with h5|h5
 ·rcases h2 h' h5 with h6|h6
  ·exact .inl h6
  ·exact .inr (List.mem_append.2 (.inl h6))
 ·exact .inr (List.mem_append.2 (.inr h5))
theorem Mut.clr{w:World}{Δ:Cg}{σ:Ss}(m:Mut w Δ σ)(hb:Blk Δ):Mut (w.setCell ⟨Δ.S,631,none⟩ (.slice none 0 0)) Δ {σ with Q:= []}/\Kp w (w.setCell ⟨Δ.S,631,none⟩ (.slice none 0 0)) Δ:=by
 have bS:=hb.bS
 have nM:=hb.nM
 have blk:∀k,k≠Δ.S->(w.setCell ⟨Δ.S,631,none⟩ (.slice none 0 0)).heap[k]?=w.heap[k]?:=fun k hk=>Below.heap_setCell _ _ _ _ hk
 have cs:∀i,i≠631->(w.setCell ⟨Δ.S,631,none⟩ (.slice none 0 0)).cell? ⟨Δ.S,i,none⟩=w.cell? ⟨Δ.S,i,none⟩:=fun i h1=>World.cell?_setCell_other _ _ _ _ (by rintro e;cases e;exact h1 rfl)
 obtain⟨v,hv,ho,hg⟩:=m.wq
 refine⟨⟨by simp[World.setCell];exact m.sz,fun h hv=>by rw[World.cell?_of_block (blk _ nM)];exact m.mb h hv,fun i=>by rw[World.frozen?_setCell];exact m.mf i,fun h b r hX=>?_,m.inj,⟨.slice none 0 0,World.cell?_setCell_same _ _ _ hv,World.ownsRow_nil _ _ _ _,fun g hg=>by simp[Value.ownBlock]at hg⟩,fun h hm=>by simp at hm,(cs 632 (by omega)).trans m.c632,(cs 633 (by omega)).trans m.c633,fun i hi=>by rw[World.frozen?_setCell];exact m.fS i hi⟩,(Kp.refl w Δ).own 631 (by omega) _⟩
 have s0:=m.st h b r hX
 have l1:=s0.bb.1
 have l2:=s0.br.1
 exact s0.far (by simp[World.setCell]) (blk b (by omega)) (blk r (by omega)) rfl rfl rfl
structure Rests(w0 w:World)(Δ:Cg)(G:Nat->Nat->Bool)(Rch:Nd->Prop)(σ0 σ:Ss):Prop where
 m:Mut w Δ σ
 iv:Iv Δ G Rch σ
 cl:∀x,InR Δ σ x->Cls Δ σ x
 rc:∀x,InR Δ σ0 x->InR Δ σ x
 qn:σ.Q= []
 wt:∀h,σ.wt h=false
 tb:∀h,-1<=σ.tp h/\σ.tp h<Δ.D.length
 xt:Ext σ0 σ
 un:Un σ
 k:Kp w0 w Δ
theorem followAll_any{w:World}{Δ:Cg}{G:Nat->Nat->Bool}{Rch:Nd->Prop}{σ:Ss}(F:Fix Δ G Rch)(r:Rdo w Δ)(g:Runs w w Δ G Rch σ σ)(hw:∀h,σ.wt h=true->h∈σ.Q)(hQ:σ.Q.length+Phi Δ σ<=9000000000000):
  Calls Tryz.prog 91 #[.pointer (some ⟨Δ.S,0,none⟩)] w fun e w'=>e= .returned (.tuple #[])/\∃σ',Rests w w' Δ G Rch σ σ':=by
 have hb:=F.sure.b
 have Hr:=hd r
 have HF:=hd F
 have Hg:=hd g
 have Hw:=hd hw
 clear r F g hw
 go_enter Tryz.func91,Tryz.ntmps91
 go_wp2
 go_loopg [2] (σ.Q.length+Phi Δ σ+1) (fun f iv wr=>∃(t:Nat) (σt:Ss),iv= .int .i64 t/\t<=σt.Q.length/\σt.Q.length+Phi Δ σt<t+f/\σt.Q.length+Phi Δ σt<=9000000000000/\Hid (∀h,σt.wt h=true->h∈σt.Q.drop t)/\Hid (Runs w wr Δ G Rch σ σt))
 case atStart=>exact⟨0,σ,rfl,Nat.zero_le _,by omega,hQ,hd (fun h hh=>by rw[List.drop_zero];exact Hw.out h hh),Hg⟩
 case round=>
  obtain⟨t,σt,rfl,ht,hf,hQt,HW,HG⟩:=hrel
  obtain⟨u,c631,hown,_⟩:=HG.out.m.wq
  have f631:=HG.out.m.fS 631 (by omega)
  by_cases hlt:t<σt.Q.length
  ·obtain⟨gb,cap,rfl,_,_⟩:=hown.form (by omega)
   have hqx:=HG.out.m.qx σt.Q[t] (List.getElem_mem hlt)
   obtain⟨⟨b,rb⟩,hX⟩:=hqx
   have cel:wr.cell? ⟨gb,t,none⟩=some (.pointer (some ⟨b,0,none⟩)):=owns_cell hown t _ (by rw[List.getElem?_map,List.getElem?_eq_getElem hlt];show some (pX (σt.X σt.Q[t]))=_;rw[hX];rfl)
   have hr:=Hr.out.kp hb HG.out.k
   have Hc:=hd (followSetting_any HF.out hr hX HG.out.self hQt)
   have Hnx:=hd (fun(w2:World) (σ2:Ss) (s:Runs wr w2 Δ G Rch σt σ2) (hf2:σ2.wt σt.Q[t]=false)=>show(∀h,σ2.wt h=true->h∈σ2.Q.drop (t+1))/\t+1<=σ2.Q.length by
    obtain⟨l,h1,h2⟩:=s.pre
    refine⟨fun h hh=>?_,by rw[h1,List.length_append];omega⟩
    rw[h1,List.drop_append_of_le_length (by omega)]
    rcases h2 h hh with h3|h3
    ·have h4:=HW.out h h3
     rw[List.drop_eq_getElem_cons hlt]at h4
     rcases List.mem_cons.1 h4 with h5|h5
     ·rw[h5,hf2]at hh;cases hh
     ·exact List.mem_append.2 (.inl h5)
    ·exact List.mem_append.2 (.inr h3))
   have ht0:(0:Int)<=(t:Int):=by omega
   have ht1:(t:Int)<(σt.Q.length:Int):=by omega
   have htb:(t:Int)<=9000000000000:=by omega
   clear hr hX hown
   generalize σt.Q[t]=hh at*
   go_wp2_with fail
   refine Hc.out.mono ?_
   rintro e1 w2 ⟨rfl,σ2,s2,hf2⟩
   obtain⟨n1,n2⟩:=Hnx.out w2 σ2 s2 hf2
   have hq2:=s2.q
   have HG2:=hd (HG.out.trans s2)
   have HW2:=hd n1
   clear s2 n1
   go_wp2
   go_roundg (gk-1)
   case measure=>omega
   case rel=>exact⟨t+1,σ2,by go_num,n2,by omega,by omega,HW2,HG2⟩
  ·obtain rfl:t=σt.Q.length:=by omega
   obtain⟨ua,uc,rfl⟩:=owns_shape hown
   have hno:∀h,σt.wt h=false:=fun h=>by
    cases hh:σt.wt h with
    |false=>rfl
    |true=>have:=HW.out h hh;rw[List.drop_length]at this;simp at this
   obtain⟨m2,k2⟩:=HG.out.m.clr hb
   have HR:Hid (Rests w (wr.setCell ⟨Δ.S,631,none⟩ (.slice none 0 0)) Δ G Rch σ {σt with Q:= []}):=hd ⟨m2,⟨HG.out.iv.low,HG.out.iv.opn,HG.out.iv.snd,HG.out.iv.fnd⟩,fun x hx=>by
    rcases HG.out.cl x hx (fun h=>h)with⟨_,h2⟩|h2
    ·rw[hno]at h2;cases h2
    ·exact h2,HG.out.rc,rfl,hno,HG.out.tb,HG.out.xt,HG.out.un,HG.out.k.trans k2⟩
   clear hown m2 k2 hno
   go_wp2
   go_end0
   exact⟨rfl,_,HR.out⟩
end Go.Proofs.YtldiemjlpnachaaGreatDoor
set_option maxHeartbeats 3200000
set_option maxRecDepth 100000
namespace Go.Proofs.YtldiemjlpnachaaGreatDoor
def ndS(e i:Nat):Nd:=⟨(0,0),e,0,i⟩
def Rk(Δ:Cg)(f0 i:Nat):Nd->Prop:=fun x=>∃j,f0<=j/\j<=i/\Path Δ.ln.data.toList Δ.D Δ.P (ndS Δ.e j) x
def Mp(Δ:Cg)(i j:Nat):Prop:=∃y d,Path Δ.ln.data.toList Δ.D Δ.P (ndS Δ.e i) y/\Δ.D[y.p]?=some (.done,d)/\y.i=j
structure Btw(w0 w:World)(Δ:Cg)(G:Nat->Nat->Bool)(f0 i:Nat)(br:Nat×Nat)(σ:Ss):Prop where
 m:Mut w Δ σ
 low:Low σ
 opn:∀x,InR Δ σ x->Open Δ G x
 snd:∀x,InR Δ σ x->∃j,f0<=j/\j<i/\Path Δ.ln.data.toList Δ.D Δ.P (ndS Δ.e j) x
 all:∀j,f0<=j->j<i->InR Δ σ (ndS Δ.e j)
 cl:∀x,InR Δ σ x->Cls Δ σ x
 fd:σ.fd=false
 qn:σ.Q= []
 wt:∀h,σ.wt h=false
 tb:∀h,-1<=σ.tp h/\σ.tp h<Δ.D.length
 un:Un σ
 hX:σ.X (0,0)=some br
 k:Kp w0 w Δ
structure Frm(Δ:Cg)(G:Nat->Nat->Bool):Prop where
 sure:Sure Δ
 ty:∀p,p<Δ.D.length->StOk Δ.D Δ.k G p
 pl:∀j,j<Δ.P.count->∀i,Δ.P.at_ j i=true->i+Δ.P.sz j<=Δ.ln.size
 K4:Δ.K<=400
 en:Tg Δ.D G Δ.e 0 (fun _=>false)
theorem Frm.fix{Δ:Cg}{G:Nat->Nat->Bool}(F:Frm Δ G)(f0 i:Nat):Fix Δ G (Rk Δ f0 i):=
 ⟨F.sure,F.ty,fun _ _ ⟨j,h1,h2,h3⟩ e=>⟨j,h1,h2,h3.tail e⟩,F.pl⟩
theorem cls_path{Δ:Cg}{σ:Ss}(cl:∀x,InR Δ σ x->Cls Δ σ x){x y:Nd}(h:Path Δ.ln.data.toList Δ.D Δ.P x y):InR Δ σ x->InR Δ σ y:=by
 induction h with
 |refl=>exact fun h=>h
 |head e _ ih=>exact fun h=>ih ((cl _ h).1 _ e)
theorem Frm.vh{Δ:Cg}{G:Nat->Nat->Bool}(F:Frm Δ G):Vh Δ (0,0):=by
 have:=F.sure.K1
 exact⟨by show 0<Δ.K;omega,by show 0<Δ.K;omega,fun _=>rfl⟩
theorem Btw.no{w0 w:World}{Δ:Cg}{G:Nat->Nat->Bool}{f0 i:Nat}{br:Nat×Nat}{σ:Ss}(g:Btw w0 w Δ G f0 i br σ){a b:Nat}(ha:f0<=a)(hi:a<i):¬Mp Δ a b:=by
 rintro⟨y,d,h1,h2,_⟩
 have h:=(g.cl y (cls_path g.cl h1 (g.all a ha hi))).2 ⟨d,h2⟩
 rw[g.fd]at h
 cases h.1
theorem Btw.runs{w0 w w1:World}{Δ:Cg}{G:Nat->Nat->Bool}{f0 i:Nat}{br:Nat×Nat}{σ:Ss}(F:Frm Δ G)(g:Btw w0 w Δ G f0 i br σ)(hf:f0<=i)(hi:i<=Δ.ln.size)(m:Mut w1 Δ (reachS Δ σ (0,0) Δ.e 0 (2^i))):
  Runs w1 w1 Δ G (Rk Δ f0 i) (reachS Δ σ (0,0) Δ.e 0 (2^i)) (reachS Δ σ (0,0) Δ.e 0 (2^i))/\(∀h,(reachS Δ σ (0,0) Δ.e 0 (2^i)).wt h=true->h∈(reachS Δ σ (0,0) Δ.e 0 (2^i)).Q)/\(reachS Δ σ (0,0) Δ.e 0 (2^i)).Q.length+Phi Δ (reachS Δ σ (0,0) Δ.e 0 (2^i))<=9000000000000/\
  (∀x,InR Δ (reachS Δ σ (0,0) Δ.e 0 (2^i)) x↔InR Δ σ x\/x=ndS Δ.e i)/\Ext σ (reachS Δ σ (0,0) Δ.e 0 (2^i)):=by
 obtain⟨ky,ke,he,_,hG⟩:=F.en
 have hl:=F.sure.l24
 have hz:2^i<2^25:=Nat.pow_lt_pow_right (by omega) (by omega)
 have hup:=up_reach g.low (h:=(0,0)) he (Nat.zero_le ke) hz
 have hpg:Pg Δ σ (reachS Δ σ (0,0) Δ.e 0 (2^i)):=pg_reach g.low hz F.vh ⟨by rw[F.sure.lv];exact fi_lt he (Nat.zero_le _),(List.getElem?_eq_some_iff.1 he).1⟩
 have hin:∀x,InR Δ (reachS Δ σ (0,0) Δ.e 0 (2^i)) x↔InR Δ σ x\/x=ndS Δ.e i:=fun x=>by
  rw[reach_in he (Nat.zero_le ke) hz (g.low _ _) x]
  constructor
  ·rintro(h|⟨h1,h2,h3,h4⟩)
   ·exact .inl h
   ·refine .inr ?_
    have h5:x.i=i:=by
     rw[Nat.testBit_two_pow]at h4
     exact(of_decide_eq_true h4).symm
    obtain⟨a,b,c,d⟩:=x
    simp only at h1 h2 h3 h5
    rw[h1,h2,h3,h5]
    rfl
  ·rintro(h|rfl)
   ·exact .inl h
   ·exact .inr ⟨rfl,rfl,rfl,by show(2^i).testBit i=true;rw[Nat.testBit_two_pow];simp⟩
 have hX:(reachS Δ σ (0,0) Δ.e 0 (2^i)).X=σ.X:=by unfold reachS;split<;>rfl
 have hfd:(reachS Δ σ (0,0) Δ.e 0 (2^i)).fd=σ.fd:=by unfold reachS;split<;>rfl
 have hun:Un (reachS Δ σ (0,0) Δ.e 0 (2^i)):=fun h' hx=>by
  rw[hX]at hx
  have hne:h'≠(0,0):=fun e=>by rw[e,g.hX]at hx;cases hx
  obtain⟨u1,u2,u3⟩:=g.un h' hx
  unfold reachS
  split
  ·exact⟨u1,u2,u3⟩
  ·exact⟨fun m=>by show(if h'=(0,0)/\m=_ then _ else _)=0;rw[if_neg (fun e=>hne e.1)];exact u1 m,by show(if h'=(0,0)then _ else _)=_;rw[if_neg hne];exact u2,by show(if h'=(0,0)then _ else _)=_;rw[if_neg hne];exact u3⟩
 obtain⟨l,q1,q2⟩:=hpg.pre
 refine⟨⟨m,⟨g.low.reach _ _ _ _ hz,fun x hx=>?_,fun x hx=>?_,fun h=>?_⟩,fun x hx _=>?_,fun _ h=>h,Nat.le_refl _,Nat.le_refl _,⟨[],by simp,fun _ h=> .inl h⟩,fun h=>⟨Int.le_trans (g.tb h).1 (hup.tp h),hpg.tb h (g.tb h).2⟩,fun _ _ h=>h,hun,Kp.refl _ _⟩,fun h hw=>?_,?_,hin,fun h b hh=>by rw[hX];exact hh⟩
 ·rcases(hin x).1 hx with h|rfl
  ·exact g.opn x h
  ·exact⟨hi,fun s _ hs=>by have hs':G Δ.e s=true:=hs;rw[hG]at hs';cases hs'⟩
 ·rcases(hin x).1 hx with h|rfl
  ·obtain⟨j,h1,h2,h3⟩:=g.snd x h
   exact⟨j,h1,by omega,h3⟩
  ·exact⟨i,hf,Nat.le_refl _,.refl _⟩
 ·rw[hfd,g.fd]at h;cases h
 ·rcases hup.nw x hx with h|h
  ·exact .inr ((g.cl x h).up hup)
  ·exact .inl h
 ·rcases q2 h hw with h1|h1
  ·rw[g.wt]at h1;cases h1
  ·rw[q1];exact List.mem_append.2 (.inr h1)
 ·have h1:=hpg.q
  have h2:=Phi_bd Δ σ F.K4 F.sure.lb
  rw[g.qn]at h1
  simp only[List.length_nil]at h1
  omega
theorem Btw.next{w0 w w1 w2:World}{Δ:Cg}{G:Nat->Nat->Bool}{f0 i:Nat}{br:Nat×Nat}{σ σ1 σ2:Ss}(g:Btw w0 w Δ G f0 i br σ)(k1:Kp w w1 Δ)(hin:∀x,InR Δ σ1 x↔InR Δ σ x\/x=ndS Δ.e i)(hx:Ext σ σ1)(r:Rests w1 w2 Δ G (Rk Δ f0 i) σ1 σ2)(hfd:σ2.fd=false):Btw w0 w2 Δ G f0 (i+1) br σ2:=
 ⟨r.m,r.iv.low,r.iv.opn,fun x hx=>by obtain⟨j,h1,h2,h3⟩:=r.iv.snd x hx;exact⟨j,h1,by omega,h3⟩,fun j h1 h2=>r.rc _ ((hin _).2 (by
  by_cases e:j=i
  ·exact .inr (by rw[e])
  ·exact .inl (g.all j h1 (by omega)))),r.cl,hfd,r.qn,r.wt,r.tb,r.un,r.xt _ _ (hx _ _ g.hX),g.k.trans (k1.trans r.k)⟩
theorem Btw.best{w0 w w1 w2:World}{Δ:Cg}{G:Nat->Nat->Bool}{f0 i n:Nat}{br:Nat×Nat}{σ σ1 σ2:Ss}(g:Btw w0 w Δ G f0 i br σ)(hf:f0<=i)(hi:i<=n)(hin:∀x,InR Δ σ1 x↔InR Δ σ x\/x=ndS Δ.e i)(r:Rests w1 w2 Δ G (Rk Δ f0 i) σ1 σ2)(hfd:σ2.fd=true):Best n (Mp Δ) f0 true i σ2.to_:=by
 refine⟨fun _=>⟨hf,hi,?_,fun a b ha _ hM=>?_⟩,fun h=>by cases h⟩
 ·obtain⟨x,d,h1,h2,h3⟩:=r.iv.fnd hfd
  obtain⟨j,j1,j2,j3⟩:=r.iv.snd x h1
  by_cases e:j=i
  ·rw[e]at j3;exact⟨x,d,j3,h2,h3⟩
  ·exact absurd ⟨x,d,j3,h2,rfl⟩ (g.no (b:=x.i) j1 (by omega))
 ·by_cases e:a<i
  ·exact absurd hM (g.no ha e)
  ·refine⟨by omega,fun e2=>?_⟩
   obtain⟨y,d,h1,h2,h3⟩:=hM
   rw[e2]at h1
   have hy:=cls_path r.cl h1 (r.rc _ ((hin _).2 (.inr rfl)))
   rw[<-h3]
   exact((r.cl y hy).2 ⟨d,h2⟩).2
theorem Btw.none{w0 w:World}{Δ:Cg}{G:Nat->Nat->Bool}{f0 n:Nat}{br:Nat×Nat}{σ:Ss}(g:Btw w0 w Δ G f0 (n+1) br σ):Best n (Mp Δ) f0 false 0 0:=
 ⟨fun h=>(by cases h),fun _=>⟨rfl,rfl,fun _ _ h1 h2=>g.no h1 (by omega)⟩⟩
def ssN:Ss:=⟨fun _=> .none,fun _ _=>0,fun _=>0,fun _=>false,[],false,0⟩
theorem inR_no{Δ:Cg}{x:Nd}{σ:Ss}(h:σ.rc=fun _ _=>0):¬InR Δ σ x:=by
 rintro⟨_,_,_,_,h2⟩
 rw[h,Nat.zero_testBit]at h2
 cases h2
theorem Btw.first{w0 w:World}{Δ:Cg}{G:Nat->Nat->Bool}(F:Frm Δ G)(f0:Nat)(b r:Nat)(m:Mut w Δ (metS ssN (0,0) b r))(k:Kp w0 w Δ):Btw w0 w Δ G f0 f0 (b,r) (metS ssN (0,0) b r):=by
 have hn:∀x,¬InR Δ (metS ssN (0,0) b r) x:=fun x=>inR_no rfl
 obtain⟨_,_,he,_⟩:=F.en
 have hl:0<Δ.D.length:=Nat.lt_of_le_of_lt (Nat.zero_le _) (List.getElem?_eq_some_iff.1 he).1
 exact⟨m,fun _ _=>by show 0<2^25;omega,fun x h=>absurd h (hn x),fun x h=>absurd h (hn x),fun j h1 h2=>absurd h2 (by omega),fun x h=>absurd h (hn x),rfl,rfl,fun _=>rfl,fun _=>⟨by show(-1:Int)<=0;omega,by show(0:Int)<_;omega⟩,fun _ _=>⟨fun _=>rfl,rfl,rfl⟩,(by show(if((0,0):Hd)=(0,0)then some (b,r)else Option.none)=some (b,r);rw[if_pos rfl]),k⟩
end Go.Proofs.YtldiemjlpnachaaGreatDoor
namespace Go.Proofs.YtldiemjlpnachaaGreatDoor
open Go.RowKit
structure NewOk(w w':World)(P o:Nat)(s:ByteArray)(M:Nat->Nat->Prop)(Δ:Cg)(G:Nat->Nat->Bool):Prop where
 ln:Δ.ln=s
 pc:Δ.PC=P
 po:Δ.o=o
 r:Rdo w' Δ
 m:Mut w' Δ ssN
 F:Frm Δ G
 bl:Below w.heap.size w w'
 nS:w.heap.size<=Δ.S
 nM:w.heap.size<=Δ.MB
 M:∀i j,i<=s.size->(Mp Δ i j↔M i j)
theorem NewOk.below{w w' w2:World}{P o:Nat}{s:ByteArray}{M:Nat->Nat->Prop}{Δ:Cg}{G:Nat->Nat->Bool}(h:NewOk w w' P o s M Δ G)(k:Kp w' w2 Δ):Below w.heap.size w w2:=
 h.bl.trans ⟨k.os,k.tape,k.output,k.size,fun i hi=>k.block i (by have:=h.nS;have:=h.F.sure.b.bS;omega) (by have:=h.nS;omega) (by have:=h.nM;omega)⟩
theorem best_iff{n:Nat}{M M':Nat->Nat->Prop}{f0:Nat}{fd:Bool}{a b:Nat}(h:Best n M f0 fd a b)(e:∀i j,i<=n->(M i j↔M' i j)):Best n M' f0 fd a b:=
 ⟨fun hf=>by obtain⟨h1,h2,h3,h4⟩:=h.1 hf;exact⟨h1,h2,(e _ _ h2).1 h3,fun i j g1 g2 g3=>h4 i j g1 g2 ((e _ _ g2).2 g3)⟩,fun hf=>by obtain⟨h1,h2,h3⟩:=h.2 hf;exact⟨h1,h2,fun i j g1 g2 g3=>h3 i j g1 g2 ((e _ _ g2).2 g3)⟩⟩
theorem findBack_any{w:World}{P o:Nat}{s:ByteArray}{M:Nat->Nat->Prop}{fr:Nat}(hs:s.size<=24)(hf:fr<=s.size)
  (hN:Calls Tryz.prog 87 #[.pointer (some ⟨P,o,none⟩),.string s] w fun e w'=>∃Δ G,e= .returned (.pointer (some ⟨Δ.S,0,none⟩))/\NewOk w w' P o s M Δ G):
  Calls Tryz.prog 70 #[.pointer (some ⟨P,o,none⟩),.string s,.int .i64 fr] w fun e w'=>Below w.heap.size w w'/\∃(fd:Bool) (a b:Nat),e= .returned (.tuple #[.int .i64 a,.int .i64 b,.bool fd])/\Best s.size M fr fd a b:=by
 have HN:=hd hN
 clear hN
 have d0:decide ((fr:Int)<0)=false:=by simp
 have d1:decide ((s.size:Int)<(fr:Int))=false:=by simp;omega
 have d2:decide ((24:Int)<(s.size:Int))=false:=by simp;omega
 have hf0:(0:Int)<=(fr:Int):=by omega
 have hf1:(fr:Int)<=(s.size:Int):=by omega
 have hs1:(s.size:Int)<=24:=by omega
 go_enter Tryz.func70,Tryz.ntmps70
 go_wp2_with fail
 refine HN.out.mono ?_
 rintro e1 w1 ⟨Δ,G,rfl,N⟩
 have HNk:=hd N
 obtain⟨rfl,rfl,rfl,r1,m1,F,_,_,_,_⟩:=N
 have HF:=hd F
 have Hset:Hid (Calls Tryz.prog 88 #[.pointer (some ⟨Δ.S,0,none⟩),.agg #[.int .i64 0,.int .i64 0]] w1 fun e w'=>∃b rb,e= .returned (.pointer (some ⟨b,0,none⟩))/\(ssN.X (0,0)=some (b,rb)/\Mut w' Δ ssN\/ssN.X (0,0)=none/\Mut w' Δ (metS ssN (0,0) b rb))/\Kp w1 w' Δ):=hd (settingOf_any F.sure.b r1 m1 (fun _ _=>⟨fun _=>rfl,rfl,rfl⟩) F.vh F.sure.k12 F.sure.Kle F.sure.room F.sure.lb)
 have Hr1:=hd r1
 clear r1 m1 F HN
 go_wp2_with fail
 refine Hset.out.mono ?_
 rintro e2 w2 ⟨b,rb,rfl,hm,k2⟩
 have hm2:Mut w2 Δ (metS ssN (0,0) b rb):=by
  rcases hm with⟨h1,_⟩|⟨_,h1⟩
  ·cases h1
  ·exact h1
 have HB:=hd (Btw.first HF.out fr b rb hm2 k2)
 clear hm hm2 k2 Hset
 go_wp2_with fail
 go_loopg [11] (Δ.ln.size+2) (fun k iv wr=>∃(t:Nat) (σ:Ss),iv= .int .i64 t/\fr<=t/\t<=Δ.ln.size+1/\Δ.ln.size+1<t+k/\Hid (Btw w1 wr Δ G fr t (b,rb) σ))
 case atStart=>exact⟨fr,_,rfl,Nat.le_refl _,by omega,by omega,HB⟩
 case round=>
  obtain⟨t,σ,rfl,ht0,ht1,htk,HG⟩:=hrel
  have ht0':(0:Int)<=(t:Int):=by omega
  by_cases hle:t<=Δ.ln.size
  ·have ht1':(t:Int)<=(Δ.ln.size:Int):=by omega
   have hr:=Hr1.out.kp HF.out.sure.b HG.out.k
   have p1:=hr.p1
   obtain⟨ky,ke,he,_,_⟩:=HF.out.en
   have Hre:Hid (∀W:World,Rdo W Δ->Mut W Δ σ->Calls Tryz.prog 89 #[.pointer (some ⟨Δ.S,0,none⟩),.pointer (some ⟨b,0,none⟩),.int .i64 Δ.e,.int .i64 0,.int .u32 (2^t:Nat)] W fun e w'=>e= .returned (.tuple #[])/\Mut w' Δ (reachS Δ σ (0,0) Δ.e 0 (2^t))/\Kp W w' Δ):=hd (fun W hW hM=>reach_any HF.out.sure.b hW hM HG.out.hX he (Nat.zero_le ke) (show 2^t<2^25 from Nat.pow_lt_pow_right (by omega) (by omega)) HF.out.sure.lv HF.out.sure.lb (by rw[HG.out.qn];exact Nat.zero_le _))
   have Hon:=hd (fun W:World=>only_any W (t:Int) t rfl (show t<=25 by omega))
   have Hrd:=hd hr
   have hb:=HF.out.sure.b
   clear hr he
   go_wp2_with fail
   go_region_held3 (fun w'=>w'.cell? ⟨Δ.PC,Δ.o+1,none⟩=some (.int .i64 Δ.e)) (go_keep)
    ((first
     |(go_at_call 90;refine(Hon.out _).mono ?_;rintro e3 w3 ⟨rfl,rfl⟩)
     |(go_at_call 89;refine(Hre.out _ (by exact Hrd.out.kp hb (Kp.refl _ Δ).drew) (by exact HG.out.m.drew)).mono ?_;rintro e4 w4 ⟨rfl,m4,k4'⟩;have z1:w4.cell? ⟨Δ.PC,Δ.o+1,none⟩=some (.int .i64 Δ.e):=k4'.fcell hb.bP hb.nP hb.mP (by exact p1))))
   have k4:Kp wr w4 Δ:=(Kp.refl wr Δ).drew.trans k4'
   obtain⟨g1,g2,g3,g4,g5⟩:=HG.out.runs HF.out ht0 hle m4
   have Hfa:=hd (followAll_any (HF.out.fix fr t) (Hrd.out.kp HF.out.sure.b k4) g1 g2 g3)
   have Hin:=hd g4
   have Hxt:=hd g5
   have Hk4:=hd k4
   clear g1 g2 g3 g4 g5 m4 k4 k4' z1 Hre Hon p1
   go_wp2_with fail
   refine Hfa.out.mono ?_
   rintro e5 w5 ⟨rfl,σ5,R⟩
   have HR:=hd R
   have c632:=R.m.c632
   have c633:=R.m.c633
   clear R Hfa
   cases hfd:σ5.fd with
   |false=>
    have HG5:=hd (HG.out.next Hk4.out Hin.out Hxt.out HR.out hfd)
    rw[hfd]at c632
    clear hfd HR Hin Hxt Hk4 HG
    go_wp2
    go_roundg (gk-1)
    case measure=>omega
    case rel=>exact⟨t+1,σ5,by go_num,by omega,by omega,by omega,HG5⟩
   |true=>
    have Hbe:=hd (best_iff (HG.out.best ht0 hle Hin.out HR.out hfd) HNk.out.M)
    have Hbl:=hd (HNk.out.below (HG.out.k.trans (Hk4.out.trans HR.out.k)))
    rw[hfd]at c632
    clear hfd HR Hin Hxt Hk4 HG
    go_wp2
    go_quiet (fail)
    go_wp2
    go_ret3
    exact⟨⟨Hbl.out.os,Hbl.out.tape,Hbl.out.output,Hbl.out.size,Hbl.out.block⟩,true,t,σ5.to_,rfl,Hbe.out⟩
  ·have h1:t=Δ.ln.size+1:=by omega
   have HG2:Hid (Btw w1 wr Δ G fr (Δ.ln.size+1) (b,rb) σ):=hd (by rw[<-h1];exact HG.out)
   have Hbe:=hd (best_iff (Btw.none HG2.out) HNk.out.M)
   have Hbl:=hd (HNk.out.below HG.out.k)
   have hgt:(Δ.ln.size:Int)<(t:Int):=by omega
   have hgd:decide ((t:Int)<=(Δ.ln.size:Int))=false:=by simp;omega
   clear HG HG2 h1 hle ht1 htk
   go_wp2
   go_ret3
   exact⟨Hbl.out,false,0,0,rfl,Hbe.out⟩
end Go.Proofs.YtldiemjlpnachaaGreatDoor
namespace Go.Proofs.YtldiemjlpnachaaGreatDoor
theorem slots_ty{D:List Sd}{k:Nat}{G:Nat->Nat->Bool}(h:∀p,p<D.length->StOk D k G p)(hk:k<=2):SlotsLt D 2:=by
 intro p x hx
 have hp:p<D.length:=(List.getElem?_eq_some_iff.1 hx).1
 obtain⟨x,d⟩:=x
 have h1:=h p hp x d hx
 cases x with
 |opn s n=>simp only at h1 ⊢;have:=h1.1;omega
 |shut s n=>simp only at h1 ⊢;have:=h1.1;omega
 |bck s n=>simp only at h1 ⊢;have:=h1.1;omega
 |_=>trivial
theorem mp_mg{Δ:Cg}{rf:List Nat}{r:List Tr}(hrf:rf≠ [])(hD:Δ.D=(buildD rf r).1)(he:Δ.e=(buildD rf r).2)(hP:PrtOk Δ.ln.data.toList Δ.P)(hl:Δ.ln.data.toList.length<=24)(hS:SlotsLt Δ.D 2)(i j:Nat)(hi:i<=Δ.ln.data.toList.length):
  Mp Δ i j↔∃μ,MgRow Δ.ln.data.toList rf r (i,fun _=> .no) (j,μ):=by
 rw[<-buildD_ok _ rf hrf r,<-hD,<-he]
 have hk:MkOk i (fun _=> .no):=fun _=>trivial
 constructor
 ·rintro⟨y,d,h1,h2,rfl⟩
  exact path_run hP hl hS h1 (i,fun _=> .no) rfl rfl hi hk ⟨d,h2⟩
 ·rintro⟨m,hm⟩
  obtain⟨hh,p',v',d,h1,h2⟩:=run_path hP hl hS hm hi hk
  exact⟨_,d,h2,h1,rfl⟩
end Go.Proofs.YtldiemjlpnachaaGreatDoor

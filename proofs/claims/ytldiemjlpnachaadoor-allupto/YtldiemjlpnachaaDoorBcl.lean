import Derived.Test.YtldiemjlpnachaaDoorBth
namespace Go.Proofs.YtldiemjlpnachaaDoor
open Go.RowKit
theorem vh_get{Δ:Cg}{h:Hd}(hv:Vh Δ h)(s:Nat):getH h s<Δ.K:=by
 unfold getH
 split
 ·exact hv.1
 ·exact hv.2.1
theorem follow_any{w:World}{Δ:Cg}{G:Nat→Nat→Bool}{Rch:Nd→Prop}{σ:Ss}(F:Fix Δ G Rch)(r:Rdo w Δ)(m:Mut w Δ σ)(un:Un σ)(iv:Iv Δ G Rch σ){h:Hd}{b rb:Nat}(hX:σ.X h=some (b,rb)){q d v z:Nat}{x:Sk}(hq:Δ.D[q]?=some (x,d))(hv:v≤d)(hzr:z=σ.rc h (fi Δ.D q+v))(hnz:z≠0)(hQ:σ.Q.length≤9000000000000):
  Calls Tryd.prog 104 #[.pointer (some ⟨Δ.S,0,none⟩),.pointer (some ⟨b,0,none⟩),.int .i64 q,.int .i64 v,.int .u32 z] w fun e w'=>e= .returned (.tuple #[])∧MutP w w' Δ σ (folS Δ σ h x d v z):=by
 have hz:z<2^25:=by rw[hzr];exact iv.low _ _
 have ty:=F.ty q (List.getElem?_eq_some_iff.1 hq).1
 have hin:∀t,z.testBit t=true→InR Δ σ ⟨h,q,v,t⟩:=fun t ht=>⟨x,d,hq,hv,by rw[←hzr];exact ht⟩
 have k12:=F.sure.k12
 have tg:=ty x d hq
 cases x with
 |done=>exact follow_done F.sure r m un hX hq hv hz hQ
 |one f n=>
  obtain⟨k2,e2,hn,hde,_⟩:=tg
  exact follow_one F.sure r m un hX hq hn hde hv hz hQ
 |beg n=>
  obtain⟨k2,e2,hn,hde,_⟩:=tg
  exact follow_beg F.sure r m un hX hq hn hde hv hz hQ
 |fin n=>
  obtain⟨k2,e2,hn,hde,_⟩:=tg
  exact follow_fin F.sure r m un hX hq hn hde hv hz hQ
 |fork n o=>
  obtain⟨⟨k2,e2,hn,hde,_⟩,⟨k3,e3,ho3,hde3,_⟩⟩:=tg
  exact follow_fork F.sure r m un hX hq hn hde ho3 hde3 hv hz hQ
 |opn s n=>
  obtain⟨hs,k2,e2,hn,hde,_⟩:=tg
  exact follow_opn F.sure r m un hX hq hs hn hde hv hz hQ
 |shut s n=>
  obtain⟨hs,hG,k2,e2,hn,hde,_⟩:=tg
  obtain⟨t0,ht0⟩:∃t,z.testBit t=true:=by
   rcases Classical.em (∃t,z.testBit t=true)with c|c
   ·exact c
   ·exact absurd (Nat.eq_of_testBit_eq (fun t=>by
     rw[Nat.zero_testBit]
     cases hb:z.testBit t with
     |false=>rfl
     |true=>exact absurd ⟨t,hb⟩ c)) hnz
  obtain⟨a,ha,_⟩:=(iv.opn _ (hin t0 ht0)).2 s (by omega) hG
  simp only at ha
  refine follow_shut F.sure r m un hX hq hs ha (fun t ht _=>?_) hn hde hv hz hQ
  obtain⟨a',h1,h2⟩:=(iv.opn _ (hin t ht)).2 s (by omega) hG
  simp only at h1 h2
  omega
 |bck s n=>
  obtain⟨hs,k2,e2,hn,hde,_⟩:=tg
  exact follow_bck F.sure r m un hX hq hs hn hde hv hz hQ
 |gain n=>
  obtain⟨hd1,k2,e2,hn,hde,_⟩:=tg
  exact follow_gain F.sure r m un hX hq hn hde hd1 hv hz hQ
structure Goes(w0 w:World)(Δ:Cg)(G:Nat→Nat→Bool)(Rch:Nd→Prop)(σ0 σ:Ss)(ex:Nd→Prop):Prop where
 m:Mut w Δ σ
 iv:Iv Δ G Rch σ
 cl:ClE Δ σ ex
 pg:Pg Δ σ0 σ
 up:Up Δ σ0 σ
 xt:Ext σ0 σ
 un:Un σ
 k:Kp w0 w Δ
theorem EqP.upL{Δ:Cg}{σ0 σ σ':Ss}(e:EqP σ σ')(u:Up Δ σ0 σ):Up Δ σ0 σ':=
 ⟨fun x hx=>(e.inR x).1 (u.rc x hx),fun h=>by rw[←e.tp];exact u.tp h,fun h hw=>by rw[←e.wt];exact u.wt h hw,fun hf=>by rw[←e.fd,←e.to_];exact u.fd hf,fun x hx=>by rw[←e.tp,←e.wt];exact u.nw x ((e.inR x).2 hx)⟩
theorem Goes.fol{w0 w w':World}{Δ:Cg}{G:Nat→Nat→Bool}{Rch:Nd→Prop}{σ0 σ:Ss}(F:Fix Δ G Rch){h:Hd}{b rb q d v z:Nat}{x:Sk}(hX:σ.X h=some (b,rb))(hq:Δ.D[q]?=some (x,d))(hv:v≤d)(g:Goes w0 w Δ G Rch σ0 σ (Lv h q v))(hzr:z=σ.rc h (fi Δ.D q+v))(hnz:z≠0)(mp:MutP w w' Δ σ (folS Δ σ h x d v z)):∃σ',Goes w0 w' Δ G Rch σ0 σ' (Lv h q (v+1)):=by
 obtain⟨σ',m',e',x',u',k'⟩:=mp
 have vh:=(g.m.st h b rb hX).vh
 obtain⟨iv2,up2,_⟩:=g.iv.fol F hq hv hzr hnz (vh_get vh)
 have pg2:=pg_fol F g.iv hq hv hzr vh
 have cl2:=ClE.level F g.iv hq hv (vh_get vh) g.cl (by rw[←hzr];exact hnz)
 rw[←hzr]at cl2
 exact⟨σ',m',e'.symm.iv iv2,e'.symm.clE cl2,e'.symm.pg (g.pg.trans pg2),e'.symm.upL (g.up.trans up2),fun h' br hb=>x' h' br (g.xt h' br hb),u',g.k.trans k'⟩
set_option maxRecDepth 100000 in
set_option maxHeartbeats 3200000 in
theorem followStep_any{w:World}{Δ:Cg}{G:Nat→Nat→Bool}{Rch:Nd→Prop}{σ:Ss}(F:Fix Δ G Rch)(r:Rdo w Δ){h:Hd}{b rb:Nat}(hX:σ.X h=some (b,rb)){q d:Nat}{x:Sk}(hq:Δ.D[q]?=some (x,d))(g:Goes w w Δ G Rch σ σ (Lv h q 0))(hQ:σ.Q.length+Phi Δ σ≤9000000000000):
  Calls Tryd.prog 92 #[.pointer (some ⟨Δ.S,0,none⟩),.pointer (some ⟨b,0,none⟩),.int .i64 q] w fun e w'=>e= .returned (.tuple #[])∧∃σ',Goes w w' Δ G Rch σ σ' (fun _=>False):=by
 have s0:=r.s0
 have p0:=r.p0
 have hb:=F.sure.b
 have hdm:=F.sure.dm q _ hq
 have hlb:=F.sure.lb
 have hlv:=F.sure.lv
 simp only at hdm
 have hfl:=fi_lt hq (Nat.le_refl d)
 rw[←hlv]at hfl
 have hql:q<Δ.D.length:=(List.getElem?_eq_some_iff.1 hq).1
 have hq0:(0:Int)≤(q:Int):=by omega
 have hq1:(q:Int)<(Δ.D.length:Int):=by omega
 have hfb:(fi Δ.D q:Int)+(d:Int)<(Δ.lv:Int):=by omega
 have hf0:(0:Int)≤(fi Δ.D q:Int):=by omega
 have Hr:=hd r
 have HF:=hd F
 have HX:=hd hX
 have Hq:=hd hq
 have Hg:=hd g
 have Hfl:=hd hfl
 clear r F hX hq g hlv hfl
 go_enter Tryd.func92,Tryd.ntmps92
 go_wp2
 go_loopg [7] (d+2) (fun f lv wr=>∃(t:Nat) (σt:Ss),lv= .int .i64 t∧t≤d+1∧d+1<t+f∧Hid (Goes w wr Δ G Rch σ σt (Lv h q t)))
 case atStart=>exact⟨0,σ,rfl,by omega,by omega,Hg⟩
 case round=>
  obtain⟨t,σt,rfl,ht,hf,HG⟩:=hrel
  have hr:=Hr.out.kp hb HG.out.k
  obtain⟨kk,sl,nx,ot,c0,c9,c10,c11,c12,c13,hmt⟩:=(hr.st q _ Hq.out).cells
  clear hmt
  have hXt:=HG.out.xt h _ HX.out
  have st:=HG.out.m.st h b rb hXt
  have k2:=st.c2
  by_cases hlt:t<d+1
  ·have kr:=st.rc (fi Δ.D q+t) (by have:=Hfl.out;omega)
   have hti:(t:Int)≤(d:Int):=by omega
   have hmi:(fi Δ.D q:Int)+(t:Int)=((fi Δ.D q+t:Nat):Int):=by omega
   have hm1:((fi Δ.D q+t:Nat):Int)<(Δ.lv:Int):=by omega
   have hm0:(0:Int)≤((fi Δ.D q+t:Nat):Int):=by omega
   have hmb:((fi Δ.D q+t:Nat):Int)≤301000:=by omega
   by_cases hz0:σt.rc h (fi Δ.D q+t)=0
   ·rw[hz0]at kr
    have HN:Hid (Goes w wr Δ G Rch σ σt (Lv h q (t+1))):=hd ⟨HG.out.m,HG.out.iv,HG.out.cl.level0 hz0,HG.out.pg,HG.out.up,HG.out.xt,HG.out.un,HG.out.k⟩
    clear hr st hXt hz0 c0 c9 c10 c11
    generalize fi Δ.D q+t=mm at*
    go_wp2
    go_roundg (gk-1)
    case measure=>omega
    case rel=>exact⟨t+1,σt,by go_num,by omega,by omega,HN⟩
   ·have hQt:σt.Q.length≤9000000000000:=by have:=HG.out.pg.q;omega
    have Hc:=hd (follow_any HF.out hr HG.out.m HG.out.un HG.out.iv hXt Hq.out (show t≤d by omega) rfl hz0 hQt)
    have Hfol:=hd (fun(w':World) (mp:MutP wr w' Δ σt (folS Δ σt h x d t (σt.rc h (fi Δ.D q+t))))=>HG.out.fol HF.out hXt Hq.out (show t≤d by omega) rfl hz0 mp)
    have hne:(((σt.rc h (fi Δ.D q+t):Nat):Int) !=0)=true:=by simp only[bne_iff_ne,ne_eq];omega
    clear hr st hXt hz0 c0 c9 c10 c11 hQt
    generalize σt.rc h (fi Δ.D q+t)=zz at*
    generalize fi Δ.D q+t=mm at*
    go_wp2_with fail
    refine Hc.out.mono ?_
    rintro e1 w1 ⟨rfl,mp⟩
    obtain⟨σ',g'⟩:=Hfol.out w1 mp
    have HG':=hd g'
    clear mp g'
    go_wp2
    go_roundg (gk-1)
    case measure=>omega
    case rel=>exact⟨t+1,σ',by go_num,by omega,by omega,HG'⟩
  ·obtain rfl:t=d+1:=by omega
   have HN:Hid (Goes w wr Δ G Rch σ σt (fun _=>False)):=hd ⟨HG.out.m,HG.out.iv,HG.out.cl.all Hq.out,HG.out.pg,HG.out.up,HG.out.xt,HG.out.un,HG.out.k⟩
   clear hr st hXt c0 c9 c10 c11 c13
   go_wp2
   go_end0
   exact⟨rfl,σt,HN.out⟩
end Go.Proofs.YtldiemjlpnachaaDoor
namespace Go.Proofs.YtldiemjlpnachaaDoor
open Go.RowKit
structure Runs(w0 w:World)(Δ:Cg)(G:Nat→Nat→Bool)(Rch:Nd→Prop)(σ0 σ:Ss):Prop where
 m:Mut w Δ σ
 iv:Iv Δ G Rch σ
 cl:ClE Δ σ (fun _=>False)
 rc:∀x,InR Δ σ0 x→InR Δ σ x
 ph:Phi Δ σ≤Phi Δ σ0
 q:σ.Q.length+Phi Δ σ≤σ0.Q.length+Phi Δ σ0
 pre:∃l,σ.Q=σ0.Q++l∧∀h,σ.wt h=true→σ0.wt h=true∨h∈l
 tb:∀h,-1≤σ.tp h∧σ.tp h<Δ.D.length
 xt:Ext σ0 σ
 un:Un σ
 k:Kp w0 w Δ
theorem Pg.ph{Δ:Cg}{σ σ':Ss}(p:Pg Δ σ σ'):Phi Δ σ'≤Phi Δ σ:=by
 rcases p.same with h|h
 ·exact Nat.le_of_eq (Phi_eq h.1)
 ·omega
theorem Runs.down{w0 w:World}{Δ:Cg}{G:Nat→Nat→Bool}{Rch:Nd→Prop}{σ0 σ:Ss}(hb:Blk Δ)(g:Runs w0 w Δ G Rch σ0 σ){h:Hd}{b rb q:Nat}(hX:σ.X h=some (b,rb))(htp:σ.tp h=q)(t:Int)(ht:t=(q:Int)-1):
  Goes (w.setCell ⟨b,3,none⟩ (.int .i64 t)) (w.setCell ⟨b,3,none⟩ (.int .i64 t)) Δ G Rch {σ with tp:=fun h'=>if h'=h then t else σ.tp h'} {σ with tp:=fun h'=>if h'=h then t else σ.tp h'} (Lv h q 0)∧Kp w (w.setCell ⟨b,3,none⟩ (.int .i64 t)) Δ:=by
 obtain⟨m',k'⟩:=g.m.setT hb hX t
 refine⟨⟨m',⟨g.iv.low,g.iv.opn,g.iv.snd,g.iv.fnd⟩,fun y hy hn=>?_,Pg.refl _ _,Up.refl _ _,fun _ _ h=>h,fun h' hx=>?_,Kp.refl _ _⟩,k'⟩
 ·rcases g.cl y hy (fun h=>h)with⟨h1,h2⟩|h1
  ·refine .inl ⟨?_,h2⟩
   show(y.p:Int)≤if y.h=h then t else σ.tp y.h
   by_cases e:y.h=h
   ·rw[if_pos e]
    rw[e,htp]at h1
    have:y.p≠q:=fun e2=>hn ⟨e,e2,Nat.zero_le _⟩
    omega
   ·rw[if_neg e];exact h1
  ·exact .inr h1
 ·obtain⟨u1,u2,u3⟩:=g.un h' hx
  refine⟨u1,?_,u3⟩
  show(if h'=h then t else σ.tp h')=0
  rw[if_neg (fun e=>by have hx':σ.X h'=none:=hx;rw[e,hX]at hx';cases hx')]
  exact u2
theorem Runs.step{w0 w w1 w2:World}{Δ:Cg}{G:Nat→Nat→Bool}{Rch:Nd→Prop}{σ0 σ σ1 σ2:Ss}(g:Runs w0 w Δ G Rch σ0 σ){h:Hd}{t:Int}(e1:σ1= {σ with tp:=fun h'=>if h'=h then t else σ.tp h'})(ht: -1≤t∧t<Δ.D.length)(k1:Kp w w1 Δ)(s:Goes w1 w2 Δ G Rch σ1 σ2 (fun _=>False)):Runs w0 w2 Δ G Rch σ0 σ2:=by
 subst e1
 have hph:Phi Δ {σ with tp:=fun h'=>if h'=h then t else σ.tp h'}=Phi Δ σ:=Phi_eq rfl
 have tb1:∀h',-1≤(if h'=h then t else σ.tp h')∧(if h'=h then t else σ.tp h')<Δ.D.length:=fun h'=>by
  by_cases e:h'=h
  ·rw[if_pos e];exact ht
  ·rw[if_neg e];exact g.tb h'
 refine⟨s.m,s.iv,s.cl,fun x hx=>s.up.rc x (g.rc x hx),?_,?_,?_,fun h'=>⟨?_,s.pg.tb h' (tb1 h').2⟩,fun h' br hx=>s.xt h' br (g.xt h' br hx),s.un,g.k.trans (k1.trans s.k)⟩
 ·have:=s.pg.ph;rw[hph]at this;exact Nat.le_trans this g.ph
 ·have:=s.pg.q;rw[hph]at this;exact Nat.le_trans this g.q
 ·obtain⟨l,h1,h2⟩:=g.pre
  obtain⟨l2,h3,h4⟩:=s.pg.pre
  refine⟨l++l2,by rw[h3];show σ.Q++l2=_;rw[h1,List.append_assoc],fun h' hw=>?_⟩
  rcases h4 h' hw with h5|h5
  ·rcases h2 h' h5 with h6|h6
   ·exact .inl h6
   ·exact .inr (List.mem_append.2 (.inl h6))
  ·exact .inr (List.mem_append.2 (.inr h5))
 ·exact Int.le_trans (tb1 h').1 (s.up.tp h')
theorem Runs.rest{w0 w:World}{Δ:Cg}{G:Nat→Nat→Bool}{Rch:Nd→Prop}{σ0 σ:Ss}(hb:Blk Δ)(g:Runs w0 w Δ G Rch σ0 σ){h:Hd}{b rb:Nat}(hX:σ.X h=some (b,rb))(htp:σ.tp h<0):
  Runs w0 (w.setCell ⟨b,4,none⟩ (.bool false)) Δ G Rch σ0 {σ with wt:=fun h'=>if h'=h then false else σ.wt h'}:=by
 obtain⟨m',k'⟩:=g.m.setW hb hX false
 refine⟨m',⟨g.iv.low,g.iv.opn,g.iv.snd,g.iv.fnd⟩,fun y hy hn=>?_,g.rc,g.ph,g.q,?_,g.tb,g.xt,fun h' hx=>?_,g.k.trans k'⟩
 ·rcases g.cl y hy hn with⟨h1,h2⟩|h1
  ·left
   by_cases e:y.h=h
   ·rw[e]at h1;omega
   ·exact⟨h1,(if_neg e).trans h2⟩
  ·exact .inr h1
 ·obtain⟨l,h1,h2⟩:=g.pre
  refine⟨l,h1,fun h' hw=>?_⟩
  have hw':(if h'=h then false else σ.wt h')=true:=hw
  by_cases e:h'=h
  ·rw[if_pos e]at hw';cases hw'
  ·rw[if_neg e]at hw';exact h2 h' hw'
 ·obtain⟨u1,u2,u3⟩:=g.un h' hx
  refine⟨u1,u2,?_⟩
  show(if h'=h then false else σ.wt h')=false
  split
  ·rfl
  ·exact u3
set_option maxRecDepth 100000 in
set_option maxHeartbeats 3200000 in
theorem followSetting_any{w:World}{Δ:Cg}{G:Nat→Nat→Bool}{Rch:Nd→Prop}{σ:Ss}(F:Fix Δ G Rch)(r:Rdo w Δ){h:Hd}{b rb:Nat}(hX:σ.X h=some (b,rb))(g:Runs w w Δ G Rch σ σ)(hQ:σ.Q.length+Phi Δ σ≤9000000000000):
  Calls Tryd.prog 76 #[.pointer (some ⟨Δ.S,0,none⟩),.pointer (some ⟨b,0,none⟩)] w fun e w'=>e= .returned (.tuple #[])∧∃σ',Runs w w' Δ G Rch σ σ'∧σ'.wt h=false:=by
 have hb:=F.sure.b
 have hdl:=F.sure.dl
 have Hr:=hd r
 have HF:=hd F
 have HX:=hd hX
 have Hg:=hd g
 clear r F hX g
 go_enter Tryd.func76,Tryd.ntmps76
 go_wp2
 go_loopg [4] (Phi Δ σ*(Δ.D.length+2)+(σ.tp h+1).toNat+1) (fun f _ wr=>∃σt:Ss,Phi Δ σt*(Δ.D.length+2)+(σt.tp h+1).toNat<f∧Hid (Runs w wr Δ G Rch σ σt))
 case atStart=>exact⟨σ,Nat.lt_succ_self _,Hg⟩
 case round=>
  obtain⟨σt,hf,HG⟩:=hrel
  have hXt:=HG.out.xt h _ HX.out
  have st:=HG.out.m.st h b rb hXt
  have k3:=st.c3
  have fb3:=st.fb 3
  have fb4:=st.fb 4
  have k4:=st.c4
  obtain⟨tb1,tb2⟩:=HG.out.tb h
  by_cases htp:0≤σt.tp h
  ·obtain⟨q,hq⟩:=Int.eq_ofNat_of_zero_le htp
   have hql:q<Δ.D.length:=by rw[hq]at tb2;exact Int.ofNat_lt.1 tb2
   obtain⟨⟨x,d⟩,hx⟩:∃xd,Δ.D[q]?=some xd:=⟨Δ.D[q],List.getElem?_eq_getElem hql⟩
   obtain⟨g1,k1⟩:=HG.out.down hb hXt hq ((q:Int)-1) rfl
   have hr1:=Hr.out.kp hb (HG.out.k.trans k1)
   have hQ1:σt.Q.length+Phi Δ σt≤9000000000000:=by have:=HG.out.q;omega
   have Hc:=hd (followStep_any HF.out hr1 (σ:= {σt with tp:=fun h'=>if h'=h then(q:Int)-1 else σt.tp h'}) hXt hx g1 (by exact hQ1))
   have Hstep:=hd (fun(w2:World) (σ2:Ss) (s:Goes (wr.setCell ⟨b,3,none⟩ (.int .i64 ((q:Int)-1))) w2 Δ G Rch {σt with tp:=fun h'=>if h'=h then(q:Int)-1 else σt.tp h'} σ2 (fun _=>False))=>HG.out.step rfl (show-1≤(q:Int)-1∧(q:Int)-1<Δ.D.length by omega) k1 s)
   have Hms:Hid (∀σ2,Pg Δ {σt with tp:=fun h'=>if h'=h then(q:Int)-1 else σt.tp h'} σ2→(∀h',σ2.tp h'<Δ.D.length)→Phi Δ σ2*(Δ.D.length+2)+(σ2.tp h+1).toNat+1<gk):=hd (fun σ2 pg tb=>by
    have hp:Phi Δ {σt with tp:=fun h'=>if h'=h then(q:Int)-1 else σt.tp h'}=Phi Δ σt:=Phi_eq rfl
    rcases pg.same with⟨e1,e2,_,_⟩|e1
    ·have e3:Phi Δ σ2=Phi Δ σt:=(Phi_eq e1).trans hp
     have e4:σ2.tp h=(q:Int)-1:=by rw[e2];exact if_pos rfl
     rw[e3,e4]
     rw[hq]at hf
     omega
    ·rw[hp]at e1
     have e2:Phi Δ σ2*(Δ.D.length+2)+(Δ.D.length+2)≤Phi Δ σt*(Δ.D.length+2):=by
      have:=Nat.mul_le_mul_right (Δ.D.length+2) e1
      rw[Nat.succ_mul]at this
      exact this
     have e3:=tb h
     omega)
   rw[hq]at k3
   have hqb:(q:Int)≤1000:=by omega
   clear g1 k1 hr1 hx hXt st hq htp tb1 tb2 hf
   go_wp2_with fail
   refine Hc.out.mono ?_
   rintro e1 w2 ⟨rfl,σ2,s2⟩
   have g2:=Hstep.out w2 σ2 s2
   have hm2:=Hms.out σ2 s2.pg (fun h'=>(g2.tb h').2)
   have HG2:=hd g2
   clear s2 g2
   go_wp2
   go_roundg (gk-1)
   case measure=>omega
   case rel=>exact⟨σ2,by omega,HG2⟩
  ·have hneg:σt.tp h<0:=by omega
   have hres:=HG.out.rest hb hXt hneg
   have HR:=hd hres
   have hd0:decide (0≤σt.tp h)=false:=by simp;omega
   clear hres hXt st htp
   go_wp2
   go_end0
   exact⟨rfl,_,HR.out,if_pos rfl⟩
end Go.Proofs.YtldiemjlpnachaaDoor
namespace Go.Proofs.YtldiemjlpnachaaDoor
open Go.RowKit
theorem Runs.self{w0 w:World}{Δ:Cg}{G:Nat→Nat→Bool}{Rch:Nd→Prop}{σ0 σ:Ss}(g:Runs w0 w Δ G Rch σ0 σ):Runs w w Δ G Rch σ σ:=
 ⟨g.m,g.iv,g.cl,fun _ h=>h,Nat.le_refl _,Nat.le_refl _,⟨[],by simp,fun _ h=> .inl h⟩,g.tb,fun _ _ h=>h,g.un,Kp.refl _ _⟩
theorem Runs.trans{w0 w1 w2:World}{Δ:Cg}{G:Nat→Nat→Bool}{Rch:Nd→Prop}{σ0 σ1 σ2:Ss}(g:Runs w0 w1 Δ G Rch σ0 σ1)(k:Runs w1 w2 Δ G Rch σ1 σ2):Runs w0 w2 Δ G Rch σ0 σ2:=by
 obtain⟨l,h1,h2⟩:=g.pre
 obtain⟨l2,h3,h4⟩:=k.pre
 refine⟨k.m,k.iv,k.cl,fun x hx=>k.rc x (g.rc x hx),Nat.le_trans k.ph g.ph,Nat.le_trans k.q g.q,⟨l++l2,by rw[h3,h1,List.append_assoc],fun h' hw=>?_⟩,k.tb,fun h br hx=>k.xt h br (g.xt h br hx),k.un,g.k.trans k.k⟩
 rcases h4 h' hw with h5|h5
 ·rcases h2 h' h5 with h6|h6
  ·exact .inl h6
  ·exact .inr (List.mem_append.2 (.inl h6))
 ·exact .inr (List.mem_append.2 (.inr h5))
theorem Mut.clr{w:World}{Δ:Cg}{σ:Ss}(m:Mut w Δ σ)(hb:Blk Δ):Mut (w.setCell ⟨Δ.S,631,none⟩ (.slice none 0 0)) Δ {σ with Q:= []}∧Kp w (w.setCell ⟨Δ.S,631,none⟩ (.slice none 0 0)) Δ:=by
 have bS:=hb.bS
 have nM:=hb.nM
 have blk:∀k,k≠Δ.S→(w.setCell ⟨Δ.S,631,none⟩ (.slice none 0 0)).heap[k]?=w.heap[k]?:=fun k hk=>Below.heap_setCell _ _ _ _ hk
 have cs:∀i,i≠631→(w.setCell ⟨Δ.S,631,none⟩ (.slice none 0 0)).cell? ⟨Δ.S,i,none⟩=w.cell? ⟨Δ.S,i,none⟩:=fun i h1=>World.cell?_setCell_other _ _ _ _ (by rintro e;cases e;exact h1 rfl)
 obtain⟨v,hv,ho,hg⟩:=m.wq
 refine⟨⟨by simp[World.setCell];exact m.sz,fun h hv=>by rw[World.cell?_of_block (blk _ nM)];exact m.mb h hv,fun i=>by rw[World.frozen?_setCell];exact m.mf i,fun h b r hX=>?_,m.inj,⟨.slice none 0 0,World.cell?_setCell_same _ _ _ hv,World.ownsRow_nil _ _ _ _,fun g hg=>by simp[Value.ownBlock]at hg⟩,fun h hm=>by simp at hm,(cs 632 (by omega)).trans m.c632,(cs 633 (by omega)).trans m.c633,fun i hi=>by rw[World.frozen?_setCell];exact m.fS i hi⟩,(Kp.refl w Δ).own 631 (by omega) _⟩
 have s0:=m.st h b r hX
 have l1:=s0.bb.1
 have l2:=s0.br.1
 exact s0.far (by simp[World.setCell]) (blk b (by omega)) (blk r (by omega)) rfl rfl rfl
structure Rests(w0 w:World)(Δ:Cg)(G:Nat→Nat→Bool)(Rch:Nd→Prop)(σ0 σ:Ss):Prop where
 m:Mut w Δ σ
 iv:Iv Δ G Rch σ
 cl:∀x,InR Δ σ x→Cls Δ σ x
 rc:∀x,InR Δ σ0 x→InR Δ σ x
 qn:σ.Q= []
 wt:∀h,σ.wt h=false
 tb:∀h,-1≤σ.tp h∧σ.tp h<Δ.D.length
 xt:Ext σ0 σ
 un:Un σ
 k:Kp w0 w Δ
set_option maxRecDepth 100000 in
set_option maxHeartbeats 3200000 in
theorem followAll_any{w:World}{Δ:Cg}{G:Nat→Nat→Bool}{Rch:Nd→Prop}{σ:Ss}(F:Fix Δ G Rch)(r:Rdo w Δ)(g:Runs w w Δ G Rch σ σ)(hw:∀h,σ.wt h=true→h∈σ.Q)(hQ:σ.Q.length+Phi Δ σ≤9000000000000):
  Calls Tryd.prog 57 #[.pointer (some ⟨Δ.S,0,none⟩)] w fun e w'=>e= .returned (.tuple #[])∧∃σ',Rests w w' Δ G Rch σ σ':=by
 have hb:=F.sure.b
 have Hr:=hd r
 have HF:=hd F
 have Hg:=hd g
 have Hw:=hd hw
 clear r F g hw
 go_enter Tryd.func57,Tryd.ntmps57
 go_wp2
 go_loopg [2] (σ.Q.length+Phi Δ σ+1) (fun f iv wr=>∃(t:Nat) (σt:Ss),iv= .int .i64 t∧t≤σt.Q.length∧σt.Q.length+Phi Δ σt<t+f∧σt.Q.length+Phi Δ σt≤9000000000000∧Hid (∀h,σt.wt h=true→h∈σt.Q.drop t)∧Hid (Runs w wr Δ G Rch σ σt))
 case atStart=>exact⟨0,σ,rfl,Nat.zero_le _,by omega,hQ,hd (fun h hh=>by rw[List.drop_zero];exact Hw.out h hh),Hg⟩
 case round=>
  obtain⟨t,σt,rfl,ht,hf,hQt,HW,HG⟩:=hrel
  obtain⟨u,c631,hown,_⟩:=HG.out.m.wq
  have f631:=HG.out.m.fS 631 (by omega)
  by_cases hlt:t<σt.Q.length
  ·obtain⟨gb,cap,rfl,_,_⟩:=hown.form (by omega)
   have hqx:=HG.out.m.qx σt.Q[t] (List.getElem_mem hlt)
   obtain⟨⟨b,rb⟩,hX⟩:=hqx
   have cel:wr.cell? ⟨gb,t,none⟩=some (.pointer (some ⟨b,0,none⟩)):=owns_cell hown t _ (by rw[List.getElem?_map,List.getElem?_eq_getElem hlt];show some (pX (σt.X σt.Q[t]))=_;rw[hX];rfl)
   have hr:=Hr.out.kp hb HG.out.k
   have Hc:=hd (followSetting_any HF.out hr hX HG.out.self hQt)
   have Hnx:=hd (fun(w2:World) (σ2:Ss) (s:Runs wr w2 Δ G Rch σt σ2) (hf2:σ2.wt σt.Q[t]=false)=>show(∀h,σ2.wt h=true→h∈σ2.Q.drop (t+1))∧t+1≤σ2.Q.length by
    obtain⟨l,h1,h2⟩:=s.pre
    refine⟨fun h hh=>?_,by rw[h1,List.length_append];omega⟩
    rw[h1,List.drop_append_of_le_length (by omega)]
    rcases h2 h hh with h3|h3
    ·have h4:=HW.out h h3
     rw[List.drop_eq_getElem_cons hlt]at h4
     rcases List.mem_cons.1 h4 with h5|h5
     ·rw[h5,hf2]at hh;cases hh
     ·exact List.mem_append.2 (.inl h5)
    ·exact List.mem_append.2 (.inr h3))
   have ht0:(0:Int)≤(t:Int):=by omega
   have ht1:(t:Int)<(σt.Q.length:Int):=by omega
   have htb:(t:Int)≤9000000000000:=by omega
   clear hr hX hown
   generalize σt.Q[t]=hh at*
   go_wp2_with fail
   refine Hc.out.mono ?_
   rintro e1 w2 ⟨rfl,σ2,s2,hf2⟩
   obtain⟨n1,n2⟩:=Hnx.out w2 σ2 s2 hf2
   have hq2:=s2.q
   have HG2:=hd (HG.out.trans s2)
   have HW2:=hd n1
   clear s2 n1
   go_wp2
   go_roundg (gk-1)
   case measure=>omega
   case rel=>exact⟨t+1,σ2,by go_num,n2,by omega,by omega,HW2,HG2⟩
  ·obtain rfl:t=σt.Q.length:=by omega
   obtain⟨ua,uc,rfl⟩:=owns_shape hown
   have hno:∀h,σt.wt h=false:=fun h=>by
    cases hh:σt.wt h with
    |false=>rfl
    |true=>have:=HW.out h hh;rw[List.drop_length]at this;simp at this
   obtain⟨m2,k2⟩:=HG.out.m.clr hb
   have HR:Hid (Rests w (wr.setCell ⟨Δ.S,631,none⟩ (.slice none 0 0)) Δ G Rch σ {σt with Q:= []}):=hd ⟨m2,⟨HG.out.iv.low,HG.out.iv.opn,HG.out.iv.snd,HG.out.iv.fnd⟩,fun x hx=>by
    rcases HG.out.cl x hx (fun h=>h)with⟨_,h2⟩|h2
    ·rw[hno]at h2;cases h2
    ·exact h2,HG.out.rc,rfl,hno,HG.out.tb,HG.out.xt,HG.out.un,HG.out.k.trans k2⟩
   clear hown m2 k2 hno
   go_wp2
   go_end0
   exact⟨rfl,_,HR.out⟩
end Go.Proofs.YtldiemjlpnachaaDoor

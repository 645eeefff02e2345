import Derived.Test.YtldiemjlpnachaaGreatDoorBck7
namespace Go.Proofs.YtldiemjlpnachaaGreatDoor
def InR(Δ:Cg)(σ:Ss)(x:Nd):Prop:=∃k d,Δ.D[x.p]?=some (k,d)/\x.v<=d/\(σ.rc x.h (fi Δ.D x.p+x.v)).testBit x.i=true
theorem fi_mono{D:List Sd}{p q:Nat}{x:Sk}{d:Nat}(hp:D[p]?=some (x,d))(hpq:p<q):fi D p+d+1<=fi D q:=by
 have hl:p<D.length:=(List.getElem?_eq_some_iff.1 hp).1
 have h3:p<(D.map Prod.snd).length:=by simpa using hl
 have h2:(D.map Prod.snd)[p]=d:=by
  have:(D.map Prod.snd)[p]?=some d:=by rw[List.getElem?_map,hp];rfl
  rw[List.getElem?_eq_getElem h3]at this
  simpa using this
 unfold fi
 have e:(D.map Prod.snd).take q=(D.map Prod.snd).take p++(d::((D.map Prod.snd).take q).drop (p+1)):=by
  have h4:p<((D.map Prod.snd).take q).length:=by rw[List.length_take];omega
  have h5:((D.map Prod.snd).take q)[p]=d:=by rw[List.getElem_take];exact h2
  have h6:((D.map Prod.snd).take q).take p=(D.map Prod.snd).take p:=by rw[List.take_take,Nat.min_eq_left (by omega)]
  rw[<-h6,<-h5,<-List.drop_eq_getElem_cons h4,List.take_append_drop]
 rw[e]
 simp[levs]
 omega
theorem fi_inj{D:List Sd}{p q v u:Nat}{x y:Sk}{d e:Nat}(hp:D[p]?=some (x,d))(hv:v<=d)(hq:D[q]?=some (y,e))(hu:u<=e)(h:fi D p+v=fi D q+u):p=q/\v=u:=by
 rcases Nat.lt_trichotomy p q with c|c|c
 ·have:=fi_mono hp c;omega
 ·subst c;exact⟨rfl,by omega⟩
 ·have:=fi_mono hq c;omega
theorem andNot_bit{z r:Nat}(hz:z<2^25)(hr:r<2^25):(z&&&(4294967295-r)=0)↔∀t,z.testBit t=true->r.testBit t=true:=by
 have key:∀t,t<32->(4294967295-r).testBit t=!r.testBit t:=fun t ht=>by
  have:=Nat.testBit_two_pow_sub_succ (show r<2^32 from p25 hr) t
  rw[show 2^32-(r+1)=4294967295-r by omega]at this
  rw[this]
  simp[ht]
 constructor
 ·intro h t ht
  have h1:=congrArg (fun x=>x.testBit t) h
  simp only[Nat.testBit_and,Nat.zero_testBit,ht,Bool.true_and]at h1
  have htl:t<32:=by
   rcases Nat.lt_or_ge t 32 with c|c
   ·exact c
   ·rw[Nat.testBit_lt_two_pow (Nat.lt_of_lt_of_le hz (Nat.pow_le_pow_right (by omega) (by omega)))]at ht;cases ht
  rw[key t htl]at h1
  simpa using h1
 ·intro h
  apply Nat.eq_of_testBit_eq
  intro t
  rw[Nat.testBit_and,Nat.zero_testBit]
  cases hb:z.testBit t
  ·rfl
  ·have htl:t<32:=by
    rcases Nat.lt_or_ge t 32 with c|c
    ·exact c
    ·rw[Nat.testBit_lt_two_pow (Nat.lt_of_lt_of_le hz (Nat.pow_le_pow_right (by omega) (by omega)))]at hb;cases hb
   rw[key t htl,h t hb]
   rfl
theorem reach_in{Δ:Cg}{σ:Ss}{h:Hd}{p v z d:Nat}{k:Sk}(hp:Δ.D[p]?=some (k,d))(hv:v<=d)(hz:z<2^25)(hr:σ.rc h (fi Δ.D p+v)<2^25)(x:Nd):InR Δ (reachS Δ σ h p v z) x↔InR Δ σ x\/(x.h=h/\x.p=p/\x.v=v/\z.testBit x.i=true):=by
 unfold reachS
 by_cases h0:z&&&(4294967295-σ.rc h (fi Δ.D p+v))=0
 ·rw[if_pos h0]
  constructor
  ·exact .inl
  ·rintro(h1|⟨rfl,rfl,rfl,h1⟩)
   ·exact h1
   ·exact⟨k,d,hp,hv,(andNot_bit hz hr).1 h0 _ h1⟩
 ·rw[if_neg h0]
  constructor
  ·rintro⟨k2,d2,h1,h2,h3⟩
   have h3':(if x.h=h/\fi Δ.D x.p+x.v=fi Δ.D p+v then σ.rc h (fi Δ.D x.p+x.v)|||z else σ.rc x.h (fi Δ.D x.p+x.v)).testBit x.i=true:=h3
   by_cases e:x.h=h/\fi Δ.D x.p+x.v=fi Δ.D p+v
   ·rw[if_pos e,Nat.testBit_or,Bool.or_eq_true]at h3'
    obtain⟨e1,e2⟩:=fi_inj h1 h2 hp hv e.2
    rcases h3' with h4|h4
    ·exact .inl ⟨k2,d2,h1,h2,by rw[e.1];exact h4⟩
    ·exact .inr ⟨e.1,e1,e2,h4⟩
   ·rw[if_neg e]at h3'
    exact .inl ⟨k2,d2,h1,h2,h3'⟩
  ·intro hx
   have goal:∀k2 d2,Δ.D[x.p]?=some (k2,d2)->x.v<=d2->(if x.h=h/\fi Δ.D x.p+x.v=fi Δ.D p+v then σ.rc h (fi Δ.D x.p+x.v)|||z else σ.rc x.h (fi Δ.D x.p+x.v)).testBit x.i=true->InR Δ {σ with rc:=fun h' m=>if h'=h/\m=fi Δ.D p+v then σ.rc h m|||z else σ.rc h' m,tp:=fun h'=>if h'=h then(if σ.tp h<p then(p:Int)else σ.tp h)else σ.tp h',wt:=fun h'=>if h'=h then true else σ.wt h',Q:=if σ.wt h=true then σ.Q else σ.Q++ [h]} x:=fun k2 d2 a b c=>⟨k2,d2,a,b,c⟩
   rcases hx with⟨k2,d2,h1,h2,h3⟩|⟨e1,e2,e3,h4⟩
   ·refine goal k2 d2 h1 h2 ?_
    by_cases e:x.h=h/\fi Δ.D x.p+x.v=fi Δ.D p+v
    ·rw[if_pos e,Nat.testBit_or,Bool.or_eq_true]
     left
     rw[<-e.1];exact h3
    ·rw[if_neg e];exact h3
   ·refine goal k d (by rw[e2];exact hp) (by rw[e3];exact hv) ?_
    rw[if_pos ⟨e1,by rw[e2,e3]⟩,Nat.testBit_or,Bool.or_eq_true]
    exact .inr h4
def Low(σ:Ss):Prop:=∀h m,σ.rc h m<2^25
theorem Low.reach{Δ:Cg}{σ:Ss}(l:Low σ)(h:Hd)(p v z:Nat)(hz:z<2^25):Low (reachS Δ σ h p v z):=by
 intro h' m
 unfold reachS
 split
 ·exact l h' m
 ·simp only
  split
  ·exact Nat.or_lt_two_pow (l _ _) hz
  ·exact l _ _
def Open(Δ:Cg)(G:Nat->Nat->Bool)(x:Nd):Prop:=x.i<=Δ.ln.size/\∀s,s<2->G x.p s=true->∃a,getH x.h s=1+a/\a<=x.i
theorem Low.gGo{Δ:Cg}{σ:Ss}(l:Low σ)(z:Nat)(f:Nat->Hd)(n v:Nat):∀t,t<=25->Low (gGo Δ z f n v t σ)
 |0,_=>l
 |t+1,ht=>by
  have h:=Low.gGo (Δ:=Δ) l z f n v t (by omega)
  rw[Go.Proofs.YtldiemjlpnachaaGreatDoor.gGo]
  split
  ·exact h.reach _ _ _ _ (Nat.pow_lt_pow_right (by omega) (by omega))
  ·exact h
theorem gGo_in{Δ:Cg}{σ:Ss}(l:Low σ)(z:Nat)(f:Nat->Hd){n v e:Nat}{k:Sk}(hn:Δ.D[n]?=some (k,e))(hv:v<=e)(y:Nd):∀T,T<=25->(InR Δ (gGo Δ z f n v T σ) y↔InR Δ σ y\/∃t,t<T/\z.testBit t=true/\y=⟨f t,n,v,t⟩)
 |0,_=>⟨.inl,fun h=>h.elim id (fun⟨t,ht,_⟩=>absurd ht (by omega))⟩
 |T+1,hT=>by
  have ih:=gGo_in l z f hn hv y T (by omega)
  rw[gGo]
  by_cases hb:z.testBit T=true
  ·rw[if_pos hb,reach_in hn hv (Nat.pow_lt_pow_right (by omega) (by omega)) (l.gGo z f n v T (by omega) _ _),ih]
   constructor
   ·rintro((h|⟨t,h1,h2,h3⟩)|⟨e1,e2,e3,e4⟩)
    ·exact .inl h
    ·exact .inr ⟨t,by omega,h2,h3⟩
    ·rw[Nat.testBit_two_pow]at e4
     have e5:T=y.i:=by simpa using e4
     refine .inr ⟨T,by omega,hb,?_⟩
     obtain⟨yh,yp,yv,yi⟩:=y
     simp only at e1 e2 e3 e5
     rw[e1,e2,e3,<-e5]
   ·rintro(h|⟨t,h1,h2,h3⟩)
    ·exact .inl (.inl h)
    ·rcases Nat.lt_or_ge t T with c|c
     ·exact .inl (.inr ⟨t,c,h2,h3⟩)
     ·obtain rfl:t=T:=by omega
      exact .inr (by subst h3;exact⟨rfl,rfl,rfl,by simp⟩)
  ·rw[if_neg hb,ih]
   constructor
   ·rintro(h|⟨t,h1,h2,h3⟩)
    ·exact .inl h
    ·exact .inr ⟨t,by omega,h2,h3⟩
   ·rintro(h|⟨t,h1,h2,h3⟩)
    ·exact .inl h
    ·refine .inr ⟨t,?_,h2,h3⟩
     rcases Nat.lt_or_ge t T with c|c
     ·exact c
     ·obtain rfl:t=T:=by omega
      exact absurd h2 hb
theorem nd_eq{y:Nd}{h:Hd}{p v i:Nat}(h1:y.h=h)(h2:y.p=p)(h3:y.v=v)(h4:y.i=i):y=⟨h,p,v,i⟩:=by
 obtain⟨a,b,c,d⟩:=y
 simp only at h1 h2 h3 h4
 subst h1 h2 h3 h4
 rfl
theorem fol_in{Δ:Cg}{σ:Ss}(hS:Sure Δ)(low:Low σ){h:Hd}{q d v z:Nat}{x:Sk}{G:Nat->Nat->Bool}(hq:Δ.D[q]?=some (x,d))(ty:StOk Δ.D Δ.k G q)(hv:v<=d)(hz:z<2^25)(hzl:∀t,z.testBit t=true->t<=Δ.ln.size)
  (hg:∀s,getH h s<Δ.K)(ho:∀s n,x= .shut s n->∃a,getH h s=1+a/\a<=24)(y:Nd):InR Δ (folS Δ σ h x d v z) y↔InR Δ σ y\/∃t,z.testBit t=true/\Ed Δ.ln.data.toList Δ.D Δ.P ⟨h,q,v,t⟩ y:=by
 have hl:=hS.l24
 have hll:=len_data Δ.ln
 have tg:=ty x d hq
 cases x with
 |done=>
  constructor
  ·exact .inl
  ·rintro(h1|⟨t,_,e⟩)
   ·exact h1
   ·cases e with
    |_ h1=>rw[hq]at h1;cases h1
 |one f n=>
  obtain⟨k2,e2,hn,hde,_⟩:=tg
  have hst:=shl_small (z:=z&&&bf (fun i=>f (ch Δ.ln.data.toList i)) Δ.ln.size) (k:=1) (fun i hi=>by
   rw[Nat.testBit_and,bf_bit]at hi
   simp at hi
   omega)
  show InR Δ (reachS Δ σ h n d ((z&&&bf (fun i=>f (ch Δ.ln.data.toList i)) Δ.ln.size)<<<1)) y↔_
  rw[reach_in hn hde hst (low _ _)]
  constructor
  ·rintro(h1|⟨e1,e2,e3,e4⟩)
   ·exact .inl h1
   ·rw[Nat.testBit_shiftLeft,Nat.testBit_and,bf_bit]at e4
    simp at e4
    obtain⟨a1,a2,a3,a4⟩:=e4
    refine .inr ⟨y.i-1,a2,?_⟩
    rw[nd_eq e1 e2 e3 (show y.i=y.i-1+1 by omega)]
    exact .one hq (by rw[hll];exact a3) a4
  ·rintro(h1|⟨t,ht,e⟩)
   ·exact .inl h1
   ·cases e with
    |one h1 h2 h3=>
     rw[hq]at h1;cases h1
     refine .inr ⟨rfl,rfl,rfl,?_⟩
     rw[Nat.testBit_shiftLeft,Nat.testBit_and,bf_bit]
     simp[ht,h3]
     rw[hll]at h2
     exact h2
    |_ h1=>rw[hq]at h1;cases h1
 |beg n=>
  obtain⟨k2,e2,hn,hde,_⟩:=tg
  show InR Δ (reachS Δ σ h n v (z&&&2^0)) y↔_
  rw[reach_in hn (by omega) (Nat.lt_of_le_of_lt Nat.and_le_left hz) (low _ _)]
  constructor
  ·rintro(h1|⟨e1,e2,e3,e4⟩)
   ·exact .inl h1
   ·rw[Nat.testBit_and,Nat.testBit_two_pow,Bool.and_eq_true,decide_eq_true_eq]at e4
    refine .inr ⟨y.i,e4.1,?_⟩
    have:=nd_eq e1 e2 e3 (rfl:y.i=y.i)
    rw[this]
    exact .beg hq e4.2.symm
  ·rintro(h1|⟨t,ht,e⟩)
   ·exact .inl h1
   ·cases e with
    |beg h1 h2=>
     rw[hq]at h1;cases h1
     refine .inr ⟨rfl,rfl,rfl,?_⟩
     rw[Nat.testBit_and,Nat.testBit_two_pow,Bool.and_eq_true,decide_eq_true_eq]
     exact⟨ht,h2.symm⟩
    |_ h1=>rw[hq]at h1;cases h1
 |fin n=>
  obtain⟨k2,e2,hn,hde,_⟩:=tg
  show InR Δ (reachS Δ σ h n v (z&&&2^Δ.ln.size)) y↔_
  rw[reach_in hn (by omega) (Nat.lt_of_le_of_lt Nat.and_le_left hz) (low _ _)]
  constructor
  ·rintro(h1|⟨e1,e2,e3,e4⟩)
   ·exact .inl h1
   ·rw[Nat.testBit_and,Nat.testBit_two_pow,Bool.and_eq_true,decide_eq_true_eq]at e4
    refine .inr ⟨y.i,e4.1,?_⟩
    have:=nd_eq e1 e2 e3 (rfl:y.i=y.i)
    rw[this]
    exact .fin hq (by rw[hll];exact e4.2.symm)
  ·rintro(h1|⟨t,ht,e⟩)
   ·exact .inl h1
   ·cases e with
    |fin h1 h2=>
     rw[hq]at h1;cases h1
     refine .inr ⟨rfl,rfl,rfl,?_⟩
     rw[Nat.testBit_and,Nat.testBit_two_pow,Bool.and_eq_true,decide_eq_true_eq]
     exact⟨ht,by rw[hll]at h2;exact h2.symm⟩
    |_ h1=>rw[hq]at h1;cases h1
 |fork n o=>
  obtain⟨⟨k2,e2,hn,hde,_⟩,⟨k3,e3,ho3,hde3,_⟩⟩:=tg
  show InR Δ (reachS Δ (reachS Δ σ h n v z) h o v z) y↔_
  rw[reach_in ho3 (by omega) hz (low.reach _ _ _ _ hz _ _),reach_in hn (by omega) hz (low _ _)]
  constructor
  ·rintro((h1|⟨e1,e2,e3,e4⟩)|⟨e1,e2,e3,e4⟩)
   ·exact .inl h1
   ·refine .inr ⟨y.i,e4,?_⟩
    have:=nd_eq e1 e2 e3 (rfl:y.i=y.i)
    rw[this]
    exact .forkL hq
   ·refine .inr ⟨y.i,e4,?_⟩
    have:=nd_eq e1 e2 e3 (rfl:y.i=y.i)
    rw[this]
    exact .forkR hq
  ·rintro(h1|⟨t,ht,e⟩)
   ·exact .inl (.inl h1)
   ·cases e with
    |forkL h1=>rw[hq]at h1;cases h1;exact .inl (.inr ⟨rfl,rfl,rfl,ht⟩)
    |forkR h1=>rw[hq]at h1;cases h1;exact .inr ⟨rfl,rfl,rfl,ht⟩
    |_ h1=>rw[hq]at h1;cases h1
 |opn s n=>
  obtain⟨_,k2,e2,hn,hde,_⟩:=tg
  show InR Δ (gGo Δ z (fun t=>setH h s (1+t)) n v (Δ.ln.size+1) σ) y↔_
  rw[gGo_in low z _ hn (by omega) y _ (by omega)]
  constructor
  ·rintro(h1|⟨t,h1,h2,rfl⟩)
   ·exact .inl h1
   ·exact .inr ⟨t,h2,.opn hq⟩
  ·rintro(h1|⟨t,ht,e⟩)
   ·exact .inl h1
   ·cases e with
    |opn h1=>rw[hq]at h1;cases h1;exact .inr ⟨t,by have:=hzl t ht;omega,ht,rfl⟩
    |_ h1=>rw[hq]at h1;cases h1
 |shut s n=>
  obtain⟨_,_,k2,e2,hn,hde,_⟩:=tg
  obtain⟨a,ha,ha24⟩:=ho s n rfl
  show InR Δ (gGo Δ z (fun t=>setH h s (26+Δ.P.num (getH h s-1) t)) n v (Δ.ln.size+1) σ) y↔_
  rw[show getH h s-1=a by omega,gGo_in low z _ hn (by omega) y _ (by omega)]
  constructor
  ·rintro(h1|⟨t,h1,h2,rfl⟩)
   ·exact .inl h1
   ·exact .inr ⟨t,h2,.shut hq ha ha24⟩
  ·rintro(h1|⟨t,ht,e⟩)
   ·exact .inl h1
   ·cases e with
    |shut h1 h2 h3=>
     rw[hq]at h1;cases h1
     rw[ha]at h2
     have:a=_:=Nat.add_left_cancel h2
     subst this
     exact .inr ⟨t,by have:=hzl t ht;omega,ht,rfl⟩
    |_ h1=>rw[hq]at h1;cases h1
 |bck s n=>
  obtain⟨_,k2,e2,hn,hde,_⟩:=tg
  show InR Δ (backS Δ σ h s n d v z) y↔_
  unfold backS
  by_cases h26:getH h s<26
  ·rw[if_pos h26]
   constructor
   ·exact .inl
   ·rintro(h1|⟨t,ht,e⟩)
    ·exact h1
    ·cases e with
     |bck h1 h2 h3=>rw[hq]at h1;cases h1;omega
     |_ h1=>rw[hq]at h1;cases h1
  ·rw[if_neg h26]
   obtain⟨j,hj⟩:∃j,getH h s=26+j:=⟨getH h s-26,by omega⟩
   have hjc:j<Δ.P.count:=by have:=hS.K1;have:=hg s;omega
   have hpz:=hS.psz j hjc
   rw[show getH h s-26=j by omega]
   have hst:=shl_small (z:=z&&&bf (Δ.P.at_ j) 25) (k:=Δ.P.sz j) (fun i hi=>by
    rw[Nat.testBit_and,bf_bit]at hi
    simp at hi
    exact hpz i hi.2.2)
   rw[reach_in hn (show(if 0<Δ.P.sz j then d else v)<=e2 by split<;>omega) hst (low _ _)]
   constructor
   ·rintro(h1|⟨e1,e2,e3,e4⟩)
    ·exact .inl h1
    ·rw[Nat.testBit_shiftLeft,Nat.testBit_and,bf_bit]at e4
     simp at e4
     obtain⟨a1,a2,a3,a4⟩:=e4
     refine .inr ⟨y.i-Δ.P.sz j,a2,?_⟩
     have e5:y=⟨h,n,if 0<Δ.P.sz j then d else v,y.i-Δ.P.sz j+Δ.P.sz j⟩:=nd_eq e1 e2 e3 (by omega)
     rw[e5]
     have e6:(y.i-Δ.P.sz j+Δ.P.sz j)-Δ.P.sz j=y.i-Δ.P.sz j:=by omega
     simp only[e6]
     exact .bck hq hj a4
   ·rintro(h1|⟨t,ht,e⟩)
    ·exact .inl h1
    ·cases e with
     |bck h1 h2 h3=>
      rw[hq]at h1;cases h1
      rw[hj]at h2
      have:j=_:=Nat.add_left_cancel h2
      subst this
      refine .inr ⟨rfl,rfl,rfl,?_⟩
      rw[Nat.testBit_shiftLeft,Nat.testBit_and,bf_bit]
      have:=hzl t ht
      simp[ht,h3]
      omega
     |_ h1=>rw[hq]at h1;cases h1
 |gain n=>
  obtain⟨hd1,k2,e2,hn,hde,_⟩:=tg
  show InR Δ (if v=d then reachS Δ σ h n (v-1) z else σ) y↔_
  by_cases hvd:v=d
  ·rw[if_pos hvd,reach_in hn (by omega) hz (low _ _)]
   constructor
   ·rintro(h1|⟨e1,e2,e3,e4⟩)
    ·exact .inl h1
    ·refine .inr ⟨y.i,e4,?_⟩
     have:=nd_eq e1 e2 e3 (rfl:y.i=y.i)
     rw[this]
     exact .gain hq hvd
   ·rintro(h1|⟨t,ht,e⟩)
    ·exact .inl h1
    ·cases e with
     |gain h1 h2=>rw[hq]at h1;cases h1;exact .inr ⟨rfl,rfl,rfl,ht⟩
     |_ h1=>rw[hq]at h1;cases h1
  ·rw[if_neg hvd]
   constructor
   ·exact .inl
   ·rintro(h1|⟨t,ht,e⟩)
    ·exact h1
    ·cases e with
     |gain h1 h2=>rw[hq]at h1;cases h1;exact absurd h2 hvd
     |_ h1=>rw[hq]at h1;cases h1
def Cls(Δ:Cg)(σ:Ss)(x:Nd):Prop:=(∀y,Ed Δ.ln.data.toList Δ.D Δ.P x y->InR Δ σ y)/\((∃d,Δ.D[x.p]?=some (.done,d))->σ.fd=true/\x.i<=σ.to_)
structure Up(Δ:Cg)(σ σ':Ss):Prop where
 rc:∀x,InR Δ σ x->InR Δ σ' x
 tp:∀h,σ.tp h<=σ'.tp h
 wt:∀h,σ.wt h=true->σ'.wt h=true
 fd:σ.fd=true->σ'.fd=true/\σ.to_<=σ'.to_
 nw:∀x,InR Δ σ' x->InR Δ σ x\/((x.p:Int)<=σ'.tp x.h/\σ'.wt x.h=true)
theorem Up.refl(Δ:Cg)(σ:Ss):Up Δ σ σ:=⟨fun _ h=>h,fun _=>Int.le_refl _,fun _ h=>h,fun h=>⟨h,Nat.le_refl _⟩,fun _ h=> .inl h⟩
theorem Up.trans{Δ:Cg}{a b c:Ss}(h:Up Δ a b)(k:Up Δ b c):Up Δ a c:=
 ⟨fun x hx=>k.rc x (h.rc x hx),fun x=>Int.le_trans (h.tp x) (k.tp x),fun x hx=>k.wt x (h.wt x hx),fun hf=>⟨(k.fd (h.fd hf).1).1,Nat.le_trans (h.fd hf).2 (k.fd (h.fd hf).1).2⟩,fun x hx=>by
  rcases k.nw x hx with h1|h1
  ·rcases h.nw x h1 with h2|h2
   ·exact .inl h2
   ·exact .inr ⟨Int.le_trans h2.1 (k.tp _),k.wt _ h2.2⟩
  ·exact .inr h1⟩
theorem up_reach{Δ:Cg}{σ:Ss}(low:Low σ){h:Hd}{p v z d:Nat}{k:Sk}(hp:Δ.D[p]?=some (k,d))(hv:v<=d)(hz:z<2^25):Up Δ σ (reachS Δ σ h p v z):=by
 have hin:=reach_in (σ:=σ) (h:=h) hp hv hz (low _ _)
 refine⟨fun x hx=>(hin x).2 (.inl hx),fun h'=>?_,fun h' hw=>?_,fun hf=>?_,fun x hx=>?_⟩
 ·unfold reachS
  split
  ·exact Int.le_refl _
  ·simp only
   by_cases e:h'=h
   ·rw[if_pos e,e];split<;>omega
   ·rw[if_neg e];exact Int.le_refl _
 ·unfold reachS
  split
  ·exact hw
  ·simp only
   by_cases e:h'=h
   ·rw[if_pos e]
   ·rw[if_neg e];exact hw
 ·have e:(reachS Δ σ h p v z).fd=σ.fd/\(reachS Δ σ h p v z).to_=σ.to_:=by unfold reachS;split<;>exact⟨rfl,rfl⟩
  rw[e.1,e.2]
  exact⟨hf,Nat.le_refl _⟩
 ·by_cases h0:z&&&(4294967295-σ.rc h (fi Δ.D p+v))=0
  ·have e:reachS Δ σ h p v z=σ:=by unfold reachS;rw[if_pos h0]
   rw[e]at hx
   exact .inl hx
  ·rcases(hin x).1 hx with h1|⟨e1,e2,e3,e4⟩
   ·exact .inl h1
   ·refine .inr ?_
    unfold reachS
    rw[if_neg h0]
    simp only
    rw[if_pos e1,if_pos e1,e2]
    refine⟨?_,rfl⟩
    split<;>omega
theorem up_gGo{Δ:Cg}{σ:Ss}(low:Low σ)(z:Nat)(f:Nat->Hd){n v e:Nat}{k:Sk}(hn:Δ.D[n]?=some (k,e))(hv:v<=e):∀T,T<=25->Up Δ σ (gGo Δ z f n v T σ)
 |0,_=>Up.refl _ _
 |T+1,hT=>by
  have h:=up_gGo low z f hn hv T (by omega)
  rw[gGo]
  split
  ·exact h.trans (up_reach (low.gGo z f n v T (by omega)) hn hv (Nat.pow_lt_pow_right (by omega) (by omega)))
  ·exact h
theorem mGo_up(z:Nat)(s:Bool×Nat):∀n,s.1=true->(mGo z n s).1=true/\s.2<=(mGo z n s).2
 |0,h=>⟨h,Nat.le_refl _⟩
 |n+1,h=>by
  obtain⟨h1,h2⟩:=mGo_up z s n h
  rw[mGo]
  split
  ·rename_i hc
   rcases hc.2 with h3|h3
   ·rw[h1]at h3;cases h3
   ·exact⟨rfl,by omega⟩
  ·exact⟨h1,h2⟩
theorem mGo_bit(z:Nat)(s:Bool×Nat):∀n t,t<n->z.testBit t=true->(mGo z n s).1=true/\t<=(mGo z n s).2
 |0,t,ht,_=>absurd ht (by omega)
 |n+1,t,ht,hb=>by
  rw[mGo]
  split
  ·exact⟨rfl,by omega⟩
  ·rename_i hc
   rcases Nat.lt_or_ge t n with c|c
   ·exact mGo_bit z s n t c hb
   ·obtain rfl:t=n:=by omega
    have hc':¬((mGo z t s).1=false\/(mGo z t s).2<t):=fun h=>hc ⟨hb,h⟩
    cases hm:(mGo z t s).1 with
    |false=>exact absurd (.inl hm) hc'
    |true=>exact⟨rfl,by
      rcases Nat.lt_or_ge (mGo z t s).2 t with c|c
      ·exact absurd (.inr c) hc'
      ·exact c⟩
theorem mGo_is(z:Nat)(s:Bool×Nat):∀n,(mGo z n s).1=true->(s.1=true/\(mGo z n s).2=s.2)\/z.testBit (mGo z n s).2=true
 |0,h=> .inl ⟨h,rfl⟩
 |n+1,h=>by
  rw[mGo]at h ⊢
  split
  ·rename_i hc
   exact .inr hc.1
  ·rename_i hc
   rw[if_neg hc]at h
   exact mGo_is z s n h
theorem up_fol{Δ:Cg}{σ:Ss}(hS:Sure Δ)(low:Low σ){h:Hd}{q d v z:Nat}{x:Sk}{G:Nat->Nat->Bool}(hq:Δ.D[q]?=some (x,d))(ty:StOk Δ.D Δ.k G q)(hv:v<=d)(hz:z<2^25)(hg:∀s,getH h s<Δ.K):Up Δ σ (folS Δ σ h x d v z)/\Low (folS Δ σ h x d v z):=by
 have hl:=hS.l24
 have tg:=ty x d hq
 cases x with
 |done=>exact⟨⟨fun _ h=>h,fun _=>Int.le_refl _,fun _ h=>h,fun hf=>mGo_up z (σ.fd,σ.to_) _ hf,fun _ h=> .inl h⟩,low⟩
 |one f n=>
  obtain⟨k2,e2,hn,hde,_⟩:=tg
  have hst:=shl_small (z:=z&&&bf (fun i=>f (ch Δ.ln.data.toList i)) Δ.ln.size) (k:=1) (fun i hi=>by
   rw[Nat.testBit_and,bf_bit]at hi
   simp at hi
   omega)
  exact⟨up_reach low hn hde hst,low.reach _ _ _ _ hst⟩
 |beg n=>
  obtain⟨k2,e2,hn,hde,_⟩:=tg
  have hst:z&&&2^0<2^25:=Nat.lt_of_le_of_lt Nat.and_le_left hz
  exact⟨up_reach low hn (by omega) hst,low.reach _ _ _ _ hst⟩
 |fin n=>
  obtain⟨k2,e2,hn,hde,_⟩:=tg
  have hst:z&&&2^Δ.ln.size<2^25:=Nat.lt_of_le_of_lt Nat.and_le_left hz
  exact⟨up_reach low hn (by omega) hst,low.reach _ _ _ _ hst⟩
 |fork n o=>
  obtain⟨⟨k2,e2,hn,hde,_⟩,⟨k3,e3,ho3,hde3,_⟩⟩:=tg
  have l1:=low.reach (Δ:=Δ) h n v z hz
  exact⟨(up_reach low hn (by omega) hz).trans (up_reach l1 ho3 (by omega) hz),l1.reach _ _ _ _ hz⟩
 |opn s n=>
  obtain⟨_,k2,e2,hn,hde,_⟩:=tg
  exact⟨up_gGo low z _ hn (by omega) _ (by omega),low.gGo z _ n v _ (by omega)⟩
 |shut s n=>
  obtain⟨_,_,k2,e2,hn,hde,_⟩:=tg
  exact⟨up_gGo low z _ hn (by omega) _ (by omega),low.gGo z _ n v _ (by omega)⟩
 |bck s n=>
  obtain⟨_,k2,e2,hn,hde,_⟩:=tg
  show Up Δ σ (backS Δ σ h s n d v z)/\Low (backS Δ σ h s n d v z)
  unfold backS
  split
  ·exact⟨Up.refl _ _,low⟩
  ·rename_i h26
   have hjc:getH h s-26<Δ.P.count:=by have:=hS.K1;have:=hg s;omega
   have hpz:=hS.psz _ hjc
   have hst:=shl_small (z:=z&&&bf (Δ.P.at_ (getH h s-26)) 25) (k:=Δ.P.sz (getH h s-26)) (fun i hi=>by
    rw[Nat.testBit_and,bf_bit]at hi
    simp at hi
    exact hpz i hi.2.2)
   exact⟨up_reach low hn (show(if 0<Δ.P.sz (getH h s-26)then d else v)<=e2 by split<;>omega) hst,low.reach _ _ _ _ hst⟩
 |gain n=>
  obtain⟨hd1,k2,e2,hn,hde,_⟩:=tg
  show Up Δ σ (if v=d then reachS Δ σ h n (v-1) z else σ)/\Low (if v=d then reachS Δ σ h n (v-1) z else σ)
  split
  ·exact⟨up_reach low hn (by omega) hz,low.reach _ _ _ _ hz⟩
  ·exact⟨Up.refl _ _,low⟩
end Go.Proofs.YtldiemjlpnachaaGreatDoor
namespace Go.Proofs.YtldiemjlpnachaaGreatDoor
structure Iv(Δ:Cg)(G:Nat->Nat->Bool)(Rch:Nd->Prop)(σ:Ss):Prop where
 low:Low σ
 opn:∀x,InR Δ σ x->Open Δ G x
 snd:∀x,InR Δ σ x->Rch x
 fnd:σ.fd=true->∃x d,InR Δ σ x/\Δ.D[x.p]?=some (.done,d)/\x.i=σ.to_
structure Fix(Δ:Cg)(G:Nat->Nat->Bool)(Rch:Nd->Prop):Prop where
 sure:Sure Δ
 ty:∀p,p<Δ.D.length->StOk Δ.D Δ.k G p
 rch:∀x y,Rch x->Ed Δ.ln.data.toList Δ.D Δ.P x y->Rch y
 pl:∀j,j<Δ.P.count->∀i,Δ.P.at_ j i=true->i+Δ.P.sz j<=Δ.ln.size
theorem getH_set{h:Hd}{s t x:Nat}(hs:s<2)(ht:t<2):getH (setH h s x) t=if t=s then x else getH h t:=by
 unfold getH setH
 rcases(show s=0\/s=1 by omega)with rfl|rfl<;>rcases(show t=0\/t=1 by omega)with rfl|rfl<;>simp
theorem open_ed{Δ:Cg}{G:Nat->Nat->Bool}{Rch:Nd->Prop}(F:Fix Δ G Rch){x y:Nd}(hx:Open Δ G x)(hg:∀s,getH x.h s<Δ.K)(e:Ed Δ.ln.data.toList Δ.D Δ.P x y):Open Δ G y:=by
 have hll:=len_data Δ.ln
 have k2:Δ.k<=2:=by have:=F.sure.k12;omega
 have tyx:∀ {k d},Δ.D[x.p]?=some (k,d)->StOk Δ.D Δ.k G x.p:=fun h=>F.ty _ (List.getElem?_eq_some_iff.1 h).1
 obtain⟨hi,ho⟩:=hx
 cases e with
 |one h1 h2 h3=>
  obtain⟨_,_,_,_,hG⟩:=tyx h1 _ _ h1
  refine⟨by rw[hll]at h2;exact h2,fun s hs hgs=>?_⟩
  rw[hG]at hgs
  obtain⟨a,h4,h5⟩:=ho s hs hgs
  exact⟨a,h4,Nat.le_succ_of_le h5⟩
 |beg h1 h2=>
  obtain⟨_,_,_,_,hG⟩:=tyx h1 _ _ h1
  exact⟨hi,fun s hs hgs=>ho s hs (by rw[hG]at hgs;exact hgs)⟩
 |fin h1 h2=>
  obtain⟨_,_,_,_,hG⟩:=tyx h1 _ _ h1
  exact⟨hi,fun s hs hgs=>ho s hs (by rw[hG]at hgs;exact hgs)⟩
 |forkL h1=>
  obtain⟨⟨_,_,_,_,hG⟩,_⟩:=tyx h1 _ _ h1
  exact⟨hi,fun s hs hgs=>ho s hs (by rw[hG]at hgs;exact hgs)⟩
 |forkR h1=>
  obtain⟨_,⟨_,_,_,_,hG⟩⟩:=tyx h1 _ _ h1
  exact⟨hi,fun s hs hgs=>ho s hs (by rw[hG]at hgs;exact hgs)⟩
 | @opn h p v i d s0 n h1=>
  obtain⟨hs0,_,_,_,_,hG⟩:=tyx h1 _ _ h1
  refine⟨hi,fun s hs hgs=>?_⟩
  simp only at hgs ⊢
  rw[hG]at hgs
  rw[getH_set (by omega) hs]
  by_cases e:s=s0
  ·rw[if_pos e];exact⟨i,rfl,Nat.le_refl _⟩
  ·rw[if_neg e]
   unfold updB at hgs
   rw[if_neg e]at hgs
   exact ho s hs hgs
 | @shut h p v i d s0 n a h1 h2 h3=>
  obtain⟨hs0,_,_,_,_,_,hG⟩:=tyx h1 _ _ h1
  refine⟨hi,fun s hs hgs=>?_⟩
  simp only at hgs ⊢
  rw[hG]at hgs
  rw[getH_set (by omega) hs]
  unfold updB at hgs
  by_cases e:s=s0
  ·rw[if_pos e]at hgs;cases hgs
  ·rw[if_neg e]
   rw[if_neg e]at hgs
   exact ho s hs hgs
 | @bck h p v i d s0 n k h1 h2 h3=>
  obtain⟨_,_,_,_,_,hG⟩:=tyx h1 _ _ h1
  have hk:k<Δ.P.count:=by have:=F.sure.K1;have:=hg s0;simp only at this;omega
  refine⟨F.pl k hk i h3,fun s hs hgs=>?_⟩
  simp only at hgs ⊢
  rw[hG]at hgs
  obtain⟨a,h4,h5⟩:=ho s hs hgs
  exact⟨a,h4,Nat.le_trans h5 (Nat.le_add_right _ _)⟩
 |gain h1 h2=>
  obtain⟨_,_,_,_,_,hG⟩:=tyx h1 _ _ h1
  exact⟨hi,fun s hs hgs=>ho s hs (by rw[hG]at hgs;exact hgs)⟩
theorem Iv.fol{Δ:Cg}{G:Nat->Nat->Bool}{Rch:Nd->Prop}{σ:Ss}(F:Fix Δ G Rch)(iv:Iv Δ G Rch σ){h:Hd}{q d v z:Nat}{x:Sk}(hq:Δ.D[q]?=some (x,d))(hv:v<=d)(hzr:z=σ.rc h (fi Δ.D q+v))(hnz:z≠0)(hg:∀s,getH h s<Δ.K):
  Iv Δ G Rch (folS Δ σ h x d v z)/\Up Δ σ (folS Δ σ h x d v z)/\∀t,z.testBit t=true->Cls Δ (folS Δ σ h x d v z) ⟨h,q,v,t⟩:=by
 have hz:z<2^25:=by rw[hzr];exact iv.low _ _
 have ty:=F.ty q (List.getElem?_eq_some_iff.1 hq).1
 have hin:∀t,z.testBit t=true->InR Δ σ ⟨h,q,v,t⟩:=fun t ht=>⟨x,d,hq,hv,by rw[<-hzr];exact ht⟩
 have hzl:∀t,z.testBit t=true->t<=Δ.ln.size:=fun t ht=>(iv.opn _ (hin t ht)).1
 obtain⟨t0,ht0⟩:∃t,z.testBit t=true:=by
  rcases Classical.em (∃t,z.testBit t=true)with c|c
  ·exact c
  ·exact absurd (Nat.eq_of_testBit_eq (fun t=>by
    rw[Nat.zero_testBit]
    cases hb:z.testBit t with
    |false=>rfl
    |true=>exact absurd ⟨t,hb⟩ c)) hnz
 have ho:∀s n,x= .shut s n->∃a,getH h s=1+a/\a<=24:=by
  rintro s n rfl
  obtain⟨hs,hG,_⟩:=ty _ _ hq
  have:=F.sure.k12
  obtain⟨a,h1,h2⟩:=(iv.opn _ (hin t0 ht0)).2 s (by omega) hG
  have:=hzl t0 ht0
  have:=F.sure.l24
  exact⟨a,h1,by simp only at h2;omega⟩
 have key:=fol_in F.sure iv.low hq ty hv hz hzl hg ho
 obtain⟨up,lw⟩:=up_fol F.sure iv.low hq ty hv hz hg
 refine⟨⟨lw,fun y hy=>?_,fun y hy=>?_,fun hf=>?_⟩,up,fun t ht=>⟨fun y e=>(key y).2 (.inr ⟨t,ht,e⟩),fun⟨d2,hd2⟩=>?_⟩⟩
 ·rcases(key y).1 hy with h1|⟨t,ht,e⟩
  ·exact iv.opn y h1
  ·exact open_ed F (iv.opn _ (hin t ht)) hg e
 ·rcases(key y).1 hy with h1|⟨t,ht,e⟩
  ·exact iv.snd y h1
  ·exact F.rch _ _ (iv.snd _ (hin t ht)) e
 ·have nope:(folS Δ σ h x d v z).fd=σ.fd->(folS Δ σ h x d v z).to_=σ.to_->∃x_1 d_1,InR Δ (folS Δ σ h x d v z) x_1/\Δ.D[x_1.p]?=some (.done,d_1)/\x_1.i=(folS Δ σ h x d v z).to_:=fun e1 e2=>by
   rw[e1]at hf
   obtain⟨y,d2,h1,h2,h3⟩:=iv.fnd hf
   exact⟨y,d2,up.rc y h1,h2,by rw[e2];exact h3⟩
  have rs:∀(σ':Ss) h p v z,(reachS Δ σ' h p v z).fd=σ'.fd/\(reachS Δ σ' h p v z).to_=σ'.to_:=fun σ' h p v z=>by unfold reachS;split<;>exact⟨rfl,rfl⟩
  have gs:∀(σ':Ss) z f n v T,(gGo Δ z f n v T σ').fd=σ'.fd/\(gGo Δ z f n v T σ').to_=σ'.to_:=fun σ' z f n v T=>by
   induction T with
   |zero=>exact⟨rfl,rfl⟩
   |succ T ih=>
    rw[gGo]
    split
    ·exact⟨(rs _ _ _ _ _).1.trans ih.1,(rs _ _ _ _ _).2.trans ih.2⟩
    ·exact ih
  cases x with
  |done=>
   have hf':(mGo z (Δ.ln.size+1) (σ.fd,σ.to_)).1=true:=hf
   rcases mGo_is z (σ.fd,σ.to_) (Δ.ln.size+1) hf' with⟨h1,h2⟩|h1
   ·obtain⟨y,d2,h3,h4,h5⟩:=iv.fnd h1
    exact⟨y,d2,up.rc y h3,h4,h5.trans h2.symm⟩
   ·exact⟨⟨h,q,v,_⟩,d,up.rc _ (hin _ h1),hq,rfl⟩
  |one f n=>exact nope (rs _ _ _ _ _).1 (rs _ _ _ _ _).2
  |beg n=>exact nope (rs _ _ _ _ _).1 (rs _ _ _ _ _).2
  |fin n=>exact nope (rs _ _ _ _ _).1 (rs _ _ _ _ _).2
  |fork n o=>exact nope ((rs _ _ _ _ _).1.trans (rs _ _ _ _ _).1) ((rs _ _ _ _ _).2.trans (rs _ _ _ _ _).2)
  |opn s n=>exact nope (gs _ _ _ _ _ _).1 (gs _ _ _ _ _ _).2
  |shut s n=>exact nope (gs _ _ _ _ _ _).1 (gs _ _ _ _ _ _).2
  |bck s n=>
   refine nope ?_ ?_
   ·show(backS Δ σ h s n d v z).fd=_
    unfold backS
    split
    ·rfl
    ·exact(rs _ _ _ _ _).1
   ·show(backS Δ σ h s n d v z).to_=_
    unfold backS
    split
    ·rfl
    ·exact(rs _ _ _ _ _).2
  |gain n=>
   refine nope ?_ ?_
   ·show(if v=d then reachS Δ σ h n (v-1) z else σ).fd=_
    split
    ·exact(rs _ _ _ _ _).1
    ·rfl
   ·show(if v=d then reachS Δ σ h n (v-1) z else σ).to_=_
    split
    ·exact(rs _ _ _ _ _).2
    ·rfl
 ·simp only at hd2
  rw[hq]at hd2
  cases hd2
  have hb:=mGo_bit z (σ.fd,σ.to_) (Δ.ln.size+1) t (by have:=hzl t ht;omega) ht
  exact hb
def ClE(Δ:Cg)(σ:Ss)(ex:Nd->Prop):Prop:=∀x,InR Δ σ x->¬ex x->((x.p:Int)<=σ.tp x.h/\σ.wt x.h=true)\/Cls Δ σ x
theorem Cls.up{Δ:Cg}{σ σ':Ss}{x:Nd}(c:Cls Δ σ x)(u:Up Δ σ σ'):Cls Δ σ' x:=⟨fun y e=>u.rc y (c.1 y e),fun h=>⟨(u.fd (c.2 h).1).1,Nat.le_trans (c.2 h).2 (u.fd (c.2 h).1).2⟩⟩
theorem ClE.up{Δ:Cg}{σ σ':Ss}{ex:Nd->Prop}(c:ClE Δ σ ex)(u:Up Δ σ σ'):ClE Δ σ' ex:=by
 intro x hx hn
 rcases u.nw x hx with h1|h1
 ·rcases c x h1 hn with⟨h2,h3⟩|h2
  ·exact .inl ⟨Int.le_trans h2 (u.tp _),u.wt _ h3⟩
  ·exact .inr (h2.up u)
 ·exact .inl h1
def Lv(h:Hd)(q lev:Nat):Nd->Prop:=fun x=>x.h=h/\x.p=q/\lev<=x.v
theorem ClE.level{Δ:Cg}{G:Nat->Nat->Bool}{Rch:Nd->Prop}{σ:Ss}(F:Fix Δ G Rch)(iv:Iv Δ G Rch σ){h:Hd}{q d v:Nat}{x:Sk}(hq:Δ.D[q]?=some (x,d))(hv:v<=d)(hg:∀s,getH h s<Δ.K)(c:ClE Δ σ (Lv h q v))(hnz:σ.rc h (fi Δ.D q+v)≠0):ClE Δ (folS Δ σ h x d v (σ.rc h (fi Δ.D q+v))) (Lv h q (v+1)):=by
 obtain⟨_,up,cl⟩:=iv.fol F hq hv rfl hnz hg
 intro y hy hn
 by_cases e:Lv h q v y
 ·obtain⟨e1,e2,e3⟩:=e
  have e4:y.v=v:=by
   rcases Nat.lt_or_ge v y.v with c|c
   ·exact absurd ⟨e1,e2,c⟩ hn
   ·omega
  rcases up.nw y hy with h1|h1
  ·obtain⟨k2,d2,_,_,h4⟩:=h1
   rw[e1,e2,e4]at h4
   have:=cl y.i h4
   right
   rw[nd_eq e1 e2 e4 rfl]
   exact this
  ·exact .inl h1
 ·exact c.up up y hy e
theorem ClE.level0{Δ:Cg}{σ:Ss}{h:Hd}{q v:Nat}(c:ClE Δ σ (Lv h q v))(hz:σ.rc h (fi Δ.D q+v)=0):ClE Δ σ (Lv h q (v+1)):=by
 intro y hy hn
 by_cases e:Lv h q v y
 ·obtain⟨e1,e2,e3⟩:=e
  have e4:y.v=v:=by
   rcases Nat.lt_or_ge v y.v with c|c
   ·exact absurd ⟨e1,e2,c⟩ hn
   ·omega
  obtain⟨k2,d2,_,_,h4⟩:=hy
  rw[e1,e2,e4,hz,Nat.zero_testBit]at h4
  cases h4
 ·exact c y hy e
theorem ClE.all{Δ:Cg}{σ:Ss}{h:Hd}{q d:Nat}{x:Sk}(hq:Δ.D[q]?=some (x,d))(c:ClE Δ σ (Lv h q (d+1))):ClE Δ σ (fun _=>False):=by
 intro y hy _
 refine c y hy (fun⟨_,e2,e3⟩=>?_)
 obtain⟨k2,d2,h1,h2,_⟩:=hy
 rw[e2,hq]at h1
 cases h1
 omega
end Go.Proofs.YtldiemjlpnachaaGreatDoor
namespace Go.Proofs.YtldiemjlpnachaaGreatDoor
def sumN(f:Nat->Nat):Nat->Nat
 |0=>0
 |n+1=>sumN f n+f n
theorem sumN_le{f g:Nat->Nat}:∀n,(∀i,i<n->g i<=f i)->sumN g n<=sumN f n
 |0,_=>Nat.le_refl _
 |n+1,h=>by
  have:=sumN_le n (fun i hi=>h i (by omega))
  have:=h n (by omega)
  rw[sumN,sumN];omega
theorem sumN_lt{f g:Nat->Nat}{j:Nat}:∀n,(∀i,i<n->g i<=f i)->j<n->g j<f j->sumN g n<sumN f n
 |0,_,hj,_=>absurd hj (by omega)
 |n+1,h,hj,hlt=>by
  rw[sumN,sumN]
  have h1:=h n (by omega)
  rcases Nat.lt_or_ge j n with c|c
  ·have:=sumN_lt n (fun i hi=>h i (by omega)) c hlt
   omega
  ·obtain rfl:j=n:=by omega
   have:=sumN_le j (fun i hi=>h i (by omega))
   omega
theorem sumN_bd{f:Nat->Nat}{b:Nat}:∀n,(∀i,i<n->f i<=b)->sumN f n<=n*b
 |0,_=>by simp[sumN]
 |n+1,h=>by
  have:=sumN_bd n (fun i hi=>h i (by omega))
  have:=h n (by omega)
  rw[sumN,Nat.add_mul,Nat.one_mul];omega
def nz(z:Nat):Nat:=sumN (fun t=>if z.testBit t=true then 0 else 1) 25
theorem nz_le(z:Nat):nz z<=25:=by
 have:=sumN_bd (f:=fun t=>if z.testBit t=true then 0 else 1) (b:=1) 25 (fun i _=>by split<;>omega)
 unfold nz
 omega
theorem nz_or_le(r z:Nat):nz (r|||z)<=nz r:=sumN_le 25 (fun t _=>by
 simp only[Nat.testBit_or,Bool.or_eq_true]
 by_cases h:r.testBit t=true
 ·simp[h]
 ·simp[h]
  split<;>omega)
theorem nz_or_lt{r z:Nat}(hz:z<2^25)(hr:r<2^25)(h:¬z&&&(4294967295-r)=0):nz (r|||z)<nz r:=by
 obtain⟨t,h1,h2⟩:∃t,z.testBit t=true/\¬r.testBit t=true:=by
  rcases Classical.em (∃t,z.testBit t=true/\¬r.testBit t=true)with c|c
  ·exact c
  ·exact absurd ((andNot_bit hz hr).2 (fun t ht=>by
    rcases Classical.em (r.testBit t=true)with d|d
    ·exact d
    ·exact absurd ⟨t,ht,d⟩ c)) h
 have htl:t<25:=by
  rcases Nat.lt_or_ge t 25 with c|c
  ·exact c
  ·rw[Nat.testBit_lt_two_pow (Nat.lt_of_lt_of_le hz (Nat.pow_le_pow_right (by omega) c))]at h1;cases h1
 refine sumN_lt (j:=t) 25 (fun i _=>?_) htl ?_
 ·simp only[Nat.testBit_or,Bool.or_eq_true]
  by_cases h:r.testBit i=true
  ·simp[h]
  ·simp[h]
   split<;>omega
 ·simp only[Nat.testBit_or,h1,Bool.or_true,if_true,if_neg h2]
  omega
def Phi(Δ:Cg)(σ:Ss):Nat:=sumN (fun a=>sumN (fun b=>sumN (fun m=>nz (σ.rc (a,b) m)) Δ.lv) Δ.K) Δ.K
theorem Phi_bd(Δ:Cg)(σ:Ss)(hK:Δ.K<=400)(hl:Δ.lv<=301000):Phi Δ σ<=1204000000000:=by
 have h1:Phi Δ σ<=Δ.K*(Δ.K*(Δ.lv*25)):=sumN_bd _ (fun a _=>sumN_bd _ (fun b _=>sumN_bd _ (fun m _=>nz_le _)))
 have h2:Δ.lv*25<=7525000:=by omega
 have h3:Δ.K*(Δ.lv*25)<=400*7525000:=Nat.mul_le_mul hK h2
 have h4:Δ.K*(Δ.K*(Δ.lv*25))<=400*(400*7525000):=Nat.mul_le_mul hK h3
 omega
theorem Phi_eq{Δ:Cg}{σ σ':Ss}(h:σ'.rc=σ.rc):Phi Δ σ'=Phi Δ σ:=by unfold Phi;rw[h]
structure Pg(Δ:Cg)(σ σ':Ss):Prop where
 same:(σ'.rc=σ.rc/\σ'.tp=σ.tp/\σ'.wt=σ.wt/\σ'.Q=σ.Q)\/Phi Δ σ'<Phi Δ σ
 q:σ'.Q.length+Phi Δ σ'<=σ.Q.length+Phi Δ σ
 pre:∃l,σ'.Q=σ.Q++l/\∀h,σ'.wt h=true->σ.wt h=true\/h∈l
 tb:∀h,σ.tp h<Δ.D.length->σ'.tp h<Δ.D.length
theorem Pg.refl(Δ:Cg)(σ:Ss):Pg Δ σ σ:=⟨.inl ⟨rfl,rfl,rfl,rfl⟩,Nat.le_refl _,⟨[],by simp,fun _ h=> .inl h⟩,fun _ h=>h⟩
theorem Pg.trans{Δ:Cg}{a b c:Ss}(h:Pg Δ a b)(k:Pg Δ b c):Pg Δ a c:=by
 refine⟨?_,Nat.le_trans k.q h.q,?_,fun x hx=>k.tb x (h.tb x hx)⟩
 ·rcases h.same with⟨h1,h2,h3,h4⟩|h1
  ·rcases k.same with⟨k1,k2,k3,k4⟩|k1
   ·exact .inl ⟨k1.trans h1,k2.trans h2,k3.trans h3,k4.trans h4⟩
   ·right;rw[<-Phi_eq h1];exact k1
  ·rcases k.same with⟨k1,_⟩|k1
   ·right;rw[Phi_eq k1];exact h1
   ·exact .inr (by omega)
 ·obtain⟨l,hl,hl2⟩:=h.pre
  obtain⟨m,hm,hm2⟩:=k.pre
  refine⟨l++m,by rw[hm,hl,List.append_assoc],fun x hx=>?_⟩
  rcases hm2 x hx with h1|h1
  ·rcases hl2 x h1 with h2|h2
   ·exact .inl h2
   ·exact .inr (List.mem_append.2 (.inl h2))
  ·exact .inr (List.mem_append.2 (.inr h1))
theorem pg_reach{Δ:Cg}{σ:Ss}(low:Low σ){h:Hd}{p v z:Nat}(hz:z<2^25)(hv:Vh Δ h)(hm:fi Δ.D p+v<Δ.lv/\p<Δ.D.length):Pg Δ σ (reachS Δ σ h p v z):=by
 by_cases h0:z&&&(4294967295-σ.rc h (fi Δ.D p+v))=0
 ·have e:reachS Δ σ h p v z=σ:=by unfold reachS;rw[if_pos h0]
  rw[e]
  exact Pg.refl _ _
 ·have hlt:Phi Δ (reachS Δ σ h p v z)<Phi Δ σ:=by
   have hr:(reachS Δ σ h p v z).rc=fun h' m=>if h'=h/\m=fi Δ.D p+v then σ.rc h m|||z else σ.rc h' m:=by unfold reachS;rw[if_neg h0]
   unfold Phi
   rw[hr]
   have hle:∀(a b m:Nat),nz (if((a,b):Hd)=h/\m=fi Δ.D p+v then σ.rc h m|||z else σ.rc (a,b) m)<=nz (σ.rc (a,b) m):=fun a b m=>by
    by_cases e:((a,b):Hd)=h/\m=fi Δ.D p+v
    ·rw[if_pos e,e.1];exact nz_or_le _ _
    ·rw[if_neg e];exact Nat.le_refl _
   refine sumN_lt (j:=h.1) _ (fun a _=>sumN_le _ (fun b _=>sumN_le _ (fun m _=>hle a b m))) hv.1 ?_
   refine sumN_lt (j:=h.2) _ (fun b _=>sumN_le _ (fun m _=>hle h.1 b m)) hv.2.1 ?_
   refine sumN_lt (j:=fi Δ.D p+v) _ (fun m _=>hle h.1 h.2 m) hm.1 ?_
   show nz (if((h.1,h.2):Hd)=h/\fi Δ.D p+v=fi Δ.D p+v then σ.rc h (fi Δ.D p+v)|||z else σ.rc (h.1,h.2) (fi Δ.D p+v))<nz (σ.rc (h.1,h.2) (fi Δ.D p+v))
   rw[if_pos ⟨rfl,rfl⟩]
   exact nz_or_lt hz (low _ _) h0
  refine⟨.inr hlt,?_,?_,fun h' ht=>?_⟩
  ·have:=reachS_Q Δ σ h p v z
   omega
  ·unfold reachS
   rw[if_neg h0]
   simp only
   split
   ·rename_i hw
    refine⟨[],by simp,fun h' hx=>?_⟩
    by_cases e:h'=h
    ·rw[e];exact .inl hw
    ·rw[if_neg e]at hx;exact .inl hx
   ·refine⟨[h],rfl,fun h' hx=>?_⟩
    by_cases e:h'=h
    ·exact .inr (by simp[e])
    ·rw[if_neg e]at hx;exact .inl hx
  ·unfold reachS
   rw[if_neg h0]
   simp only
   by_cases e:h'=h
   ·rw[if_pos e]
    rw[e]at ht
    have:=hm.2
    split<;>omega
   ·rw[if_neg e];exact ht
theorem pg_gGo{Δ:Cg}{σ:Ss}(low:Low σ)(z:Nat)(f:Nat->Hd){n v:Nat}(hm:fi Δ.D n+v<Δ.lv/\n<Δ.D.length):∀T,T<=25->(∀t,t<T->z.testBit t=true->Vh Δ (f t))->Pg Δ σ (gGo Δ z f n v T σ)
 |0,_,_=>Pg.refl _ _
 |T+1,hT,hf=>by
  have h:=pg_gGo low z f hm T (by omega) (fun t ht=>hf t (by omega))
  rw[gGo]
  split
  ·rename_i hb
   exact h.trans (pg_reach (low.gGo z f n v T (by omega)) (Nat.pow_lt_pow_right (by omega) (by omega)) (hf T (by omega) hb) hm)
  ·exact h
theorem pg_fol{Δ:Cg}{G:Nat->Nat->Bool}{Rch:Nd->Prop}{σ:Ss}(F:Fix Δ G Rch)(iv:Iv Δ G Rch σ){h:Hd}{q d v z:Nat}{x:Sk}(hq:Δ.D[q]?=some (x,d))(hv:v<=d)(hzr:z=σ.rc h (fi Δ.D q+v))(hvh:Vh Δ h):Pg Δ σ (folS Δ σ h x d v z):=by
 have hz:z<2^25:=by rw[hzr];exact iv.low _ _
 have ty:=F.ty q (List.getElem?_eq_some_iff.1 hq).1
 have hin:∀t,z.testBit t=true->InR Δ σ ⟨h,q,v,t⟩:=fun t ht=>⟨x,d,hq,hv,by rw[<-hzr];exact ht⟩
 have low:=iv.low
 have hl:=F.sure.l24
 have hlv:=F.sure.lv
 have K1:=F.sure.K1
 have k12:=F.sure.k12
 have fl:∀ {n u e:Nat} {k:Sk},Δ.D[n]?=some (k,e)->u<=e->fi Δ.D n+u<Δ.lv/\n<Δ.D.length:=fun h1 h2=>⟨by rw[hlv];exact fi_lt h1 h2,(List.getElem?_eq_some_iff.1 h1).1⟩
 have tg:=ty x d hq
 cases x with
 |done=>exact⟨.inl ⟨rfl,rfl,rfl,rfl⟩,Nat.le_refl _,⟨[],by simp[folS,matchS],fun _ h=> .inl h⟩,fun _ h=>h⟩
 |one f n=>
  obtain⟨k2,e2,hn,hde,_⟩:=tg
  have hst:=shl_small (z:=z&&&bf (fun i=>f (ch Δ.ln.data.toList i)) Δ.ln.size) (k:=1) (fun i hi=>by
   rw[Nat.testBit_and,bf_bit]at hi
   simp at hi
   omega)
  exact pg_reach low hst hvh (fl hn hde)
 |beg n=>
  obtain⟨k2,e2,hn,hde,_⟩:=tg
  exact pg_reach low (Nat.lt_of_le_of_lt Nat.and_le_left hz) hvh (fl hn (by omega))
 |fin n=>
  obtain⟨k2,e2,hn,hde,_⟩:=tg
  exact pg_reach low (Nat.lt_of_le_of_lt Nat.and_le_left hz) hvh (fl hn (by omega))
 |fork n o=>
  obtain⟨⟨k2,e2,hn,hde,_⟩,⟨k3,e3,ho3,hde3,_⟩⟩:=tg
  exact(pg_reach low hz hvh (fl hn (by omega))).trans (pg_reach (low.reach (Δ:=Δ) h n v z hz) hz hvh (fl ho3 (by omega)))
 |opn s n=>
  obtain⟨hs,k2,e2,hn,hde,_⟩:=tg
  exact pg_gGo low z _ (fl hn (by omega)) _ (by omega) (fun t ht _=>vh_set hvh hs (by omega))
 |shut s n=>
  obtain⟨hs,hG,k2,e2,hn,hde,_⟩:=tg
  refine pg_gGo low z _ (fl hn (by omega)) _ (by omega) (fun t ht hb=>?_)
  obtain⟨h1,h2⟩:=iv.opn _ (hin t hb)
  obtain⟨a,h3,h4⟩:=h2 s (by omega) hG
  simp only at h1 h3 h4
  refine vh_set hvh hs ?_
  rw[show getH h s-1=a by omega]
  have:=F.sure.num a t h4 (by omega) h1
  omega
 |bck s n=>
  obtain⟨hs,k2,e2,hn,hde,_⟩:=tg
  show Pg Δ σ (backS Δ σ h s n d v z)
  unfold backS
  split
  ·exact Pg.refl _ _
  ·have hg:getH h s<Δ.K:=by
    unfold getH
    split
    ·exact hvh.1
    ·exact hvh.2.1
   have hpz:=F.sure.psz (getH h s-26) (by omega)
   have hst:=shl_small (z:=z&&&bf (Δ.P.at_ (getH h s-26)) 25) (k:=Δ.P.sz (getH h s-26)) (fun i hi=>by
    rw[Nat.testBit_and,bf_bit]at hi
    simp at hi
    exact hpz i hi.2.2)
   exact pg_reach low hst hvh (fl hn (show(if 0<Δ.P.sz (getH h s-26)then d else v)<=e2 by split<;>omega))
 |gain n=>
  obtain⟨hd1,k2,e2,hn,hde,_⟩:=tg
  show Pg Δ σ (if v=d then reachS Δ σ h n (v-1) z else σ)
  split
  ·exact pg_reach low hz hvh (fl hn (by omega))
  ·exact Pg.refl _ _
theorem EqP.inR{Δ:Cg}{σ σ':Ss}(e:EqP σ σ')(x:Nd):InR Δ σ x↔InR Δ σ' x:=by unfold InR;rw[e.rc]
theorem EqP.symm{σ σ':Ss}(e:EqP σ σ'):EqP σ' σ:=⟨e.rc.symm,e.tp.symm,e.wt.symm,e.Q.symm,e.fd.symm,e.to_.symm⟩
theorem EqP.cls{Δ:Cg}{σ σ':Ss}(e:EqP σ σ'){x:Nd}(c:Cls Δ σ x):Cls Δ σ' x:=⟨fun y h=>(e.inR y).1 (c.1 y h),fun h=>by rw[<-e.fd,<-e.to_];exact c.2 h⟩
theorem EqP.clE{Δ:Cg}{σ σ':Ss}(e:EqP σ σ'){ex:Nd->Prop}(c:ClE Δ σ ex):ClE Δ σ' ex:=fun x hx hn=>by
 rcases c x ((e.inR x).2 hx) hn with h|h
 ·rw[e.tp,e.wt]at h;exact .inl h
 ·exact .inr (e.cls h)
theorem EqP.iv{Δ:Cg}{G:Nat->Nat->Bool}{Rch:Nd->Prop}{σ σ':Ss}(e:EqP σ σ')(i:Iv Δ G Rch σ):Iv Δ G Rch σ':=
 ⟨fun h m=>by rw[<-e.rc];exact i.low h m,fun x hx=>i.opn x ((e.inR x).2 hx),fun x hx=>i.snd x ((e.inR x).2 hx),fun hf=>by
  rw[<-e.fd]at hf
  obtain⟨x,d,h1,h2,h3⟩:=i.fnd hf
  exact⟨x,d,(e.inR x).1 h1,h2,by rw[<-e.to_];exact h3⟩⟩
theorem EqP.pg{Δ:Cg}{σ0 σ σ':Ss}(e:EqP σ σ')(p:Pg Δ σ0 σ):Pg Δ σ0 σ':=by
 have h1:Phi Δ σ'=Phi Δ σ:=Phi_eq e.rc.symm
 refine⟨?_,by rw[h1,<-e.Q];exact p.q,by rw[<-e.Q,<-e.wt];exact p.pre,by rw[<-e.tp];exact p.tb⟩
 rw[h1,<-e.rc,<-e.tp,<-e.wt,<-e.Q]
 exact p.same
end Go.Proofs.YtldiemjlpnachaaGreatDoor

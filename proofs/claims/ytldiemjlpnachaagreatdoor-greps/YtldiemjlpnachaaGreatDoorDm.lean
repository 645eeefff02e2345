import Derived.Test.YtldiemjlpnachaaGreatDoorEv
import Derived.Test.YtldiemjlpnachaaGreatDoorSv
namespace Go.Proofs.YtldiemjlpnachaaGreatDoor
def AdvD(R:Ds->Ds->Prop):Ds->Ds->Prop:=fun u v=>R u v/\u.1<v.1
def RptD(R:Ds->Ds->Prop)(a b:Int):Ds->Ds->Prop:=fun u v=>∃x,PowG R a.toNat u x/\∃t,(b= -1\/t<=(b-a).toNat)/\PowG (AdvD R) t x v
mutual
def Md (l:List UInt8) (rf:List Nat):Tr->Ds->Ds->Prop
 | .one f,u,v=>u.1<l.length/\f (ch l u.1)=true/\v=(u.1+1,u.2)
 | .beg,u,v=>u.1=0/\v=u
 | .fin,u,v=>u.1=l.length/\v=u
 | .back n,u,v=>∃a b:Nat,u.2[n]?=some ((a:Int),(b:Int))/\Stands l a b u.1/\v=(u.1+(b-a),u.2)
 | .grp n r,u,v=>∃x,MdRow l rf r u x/\v=(x.1,if n∈rf then x.2.set n ((u.1:Int),(x.1:Int))else x.2)
 | .rep a b x,u,v=>RptD (fun u v=>Md l rf x u v) a b u v
def MdRow (l:List UInt8) (rf:List Nat):List Tr->Ds->Ds->Prop
 | [],u,v=>v=u
 |x::r,u,v=>∃y,Md l rf x u y/\MdRow l rf r y v
end
theorem mdRow_snoc(l:List UInt8)(rf:List Nat)(x:Tr):∀(r:List Tr) (u v:Ds),MdRow l rf (r++ [x]) u v↔∃y,MdRow l rf r u y/\Md l rf x y v
 | [],u,v=>by
  simp only[List.nil_append,MdRow]
  constructor
  ·rintro⟨y,h,rfl⟩;exact⟨u,rfl,h⟩
  ·rintro⟨y,rfl,h⟩;exact⟨v,h,rfl⟩
 |z::r,u,v=>by
  simp only[List.cons_append,MdRow]
  constructor
  ·rintro⟨y,h1,h2⟩
   obtain⟨q,h3,h4⟩:=(mdRow_snoc l rf x r y v).1 h2
   exact⟨q,⟨y,h1,h3⟩,h4⟩
  ·rintro⟨q,⟨y,h1,h3⟩,h4⟩
   exact⟨y,h1,(mdRow_snoc l rf x r y v).2 ⟨q,h3,h4⟩⟩
def encM:Mark->Int×Int
 | .sp a b=>((a:Int),(b:Int))
 |_=>(-1,-1)
structure RelD(rf:List Nat)(O:Nat->Option Nat)(u:Cf)(d:Ds):Prop where
 pl:u.1=d.1
 len:d.2.length=10
 cl:∀n∈rf,O n=none->d.2[n]?=some (encM (u.2 (rf.idxOf n)))/\∀q,u.2 (rf.idxOf n)≠.op q
 op:∀n∈rf,∀q,O n=some q->u.2 (rf.idxOf n)= .op q
def SimD(P:Cf->Ds->Prop)(R:Cf->Cf->Prop)(S:Ds->Ds->Prop):Prop:=∀u d,P u d->(∀v,R u v->∃e,S d e/\P v e)/\(∀e,S d e->∃v,R u v/\P v e)
theorem SimD.pow{P:Cf->Ds->Prop}{R:Cf->Cf->Prop}{S:Ds->Ds->Prop}(h:SimD P R S):∀n,SimD P (PowG R n) (PowG S n)
 |0=>fun u d hp=>⟨fun v hv=>by cases hv;exact⟨d,.zero _,hp⟩,fun e he=>by cases he;exact⟨u,.zero _,hp⟩⟩
 |n+1=>fun u d hp=>by
  constructor
  ·intro v hv
   cases hv with
   |succ h1 h2=>
    obtain⟨e,k1,k2⟩:=(h u d hp).1 _ h1
    obtain⟨e2,k3,k4⟩:=(SimD.pow h n _ e k2).1 _ h2
    exact⟨e2,.succ k1 k3,k4⟩
  ·intro e he
   cases he with
   |succ h1 h2=>
    obtain⟨v,k1,k2⟩:=(h u d hp).2 _ h1
    obtain⟨v2,k3,k4⟩:=(SimD.pow h n v _ k2).2 _ h2
    exact⟨v2,.succ k1 k3,k4⟩
theorem SimD.adv{P:Cf->Ds->Prop}{R:Cf->Cf->Prop}{S:Ds->Ds->Prop}(h:SimD P R S)(hp:∀u d,P u d->u.1=d.1):SimD P (Adv R) (AdvD S):=fun u d hu=>by
 constructor
 ·rintro v ⟨h1,h2⟩
  obtain⟨e,k1,k2⟩:=(h u d hu).1 v h1
  exact⟨e,⟨k1,by rw[<-hp _ _ hu,<-hp _ _ k2];exact h2⟩,k2⟩
 ·rintro e ⟨h1,h2⟩
  obtain⟨v,k1,k2⟩:=(h u d hu).2 e h1
  exact⟨v,⟨k1,by rw[hp _ _ hu,hp _ _ k2];exact h2⟩,k2⟩
theorem SimD.rpt{P:Cf->Ds->Prop}{R:Cf->Cf->Prop}{S:Ds->Ds->Prop}(h:SimD P R S)(hp:∀u d,P u d->u.1=d.1)(a b:Int):SimD P (Rpt R a b) (RptD S a b):=fun u d hu=>by
 constructor
 ·rintro v ⟨x,h1,t,ht,h2⟩
  obtain⟨e,k1,k2⟩:=(h.pow _ u d hu).1 x h1
  obtain⟨e2,k3,k4⟩:=((h.adv hp).pow t x e k2).1 v h2
  exact⟨e2,⟨e,k1,t,ht,k3⟩,k4⟩
 ·rintro e2 ⟨e,k1,t,ht,k3⟩
  obtain⟨x,h1,k2⟩:=(h.pow _ u d hu).2 e k1
  obtain⟨v,h2,k4⟩:=((h.adv hp).pow t x e k2).2 e2 k3
  exact⟨v,⟨x,h1,t,ht,h2⟩,k4⟩
theorem encM_sp{m:Mark}{a b:Nat}(h:encM m=((a:Int),(b:Int))):m= .sp a b:=by
 cases m with
 |no=>simp[encM]at h
 |op q=>simp[encM]at h
 |sp x y=>simp[encM]at h;congr 1<;>omega
theorem setM_same(μ:Mks)(s:Nat)(m:Mark):setM μ s m s=m:=by simp[setM]
theorem setM_ne(μ:Mks){s t:Nat}(m:Mark)(h:t≠s):setM μ s m t=μ t:=by simp[setM,h]
mutual
theorem md_sim (l:List UInt8) (rf:List Nat) (h10:∀n∈rf,n<10):∀(x:Tr) (N:Nat) (O:Nat->Option Nat),gtN N x->bks rf x->(∀n∈rf,O n≠none->n<=N/\nb n x)->SimD (RelD rf O) (fun u v=>Mg l rf x u v) (fun d e=>Md l rf x d e)
 | .one f,N,O,_,_,_=>fun u d hu=>by
  simp only[Mg,Md]
  constructor
  ·rintro v ⟨h1,h2,rfl⟩
   exact⟨_,⟨by rw[<-hu.pl];exact h1,by rw[<-hu.pl];exact h2,rfl⟩,⟨by show u.1+1=d.1+1;rw[hu.pl],hu.len,hu.cl,hu.op⟩⟩
  ·rintro e ⟨h1,h2,rfl⟩
   exact⟨_,⟨by rw[hu.pl];exact h1,by rw[hu.pl];exact h2,rfl⟩,⟨by show u.1+1=d.1+1;rw[hu.pl],hu.len,hu.cl,hu.op⟩⟩
 | .beg,N,O,_,_,_=>fun u d hu=>by
  simp only[Mg,Md]
  constructor
  ·rintro v ⟨h1,rfl⟩;exact⟨d,⟨by rw[<-hu.pl];exact h1,rfl⟩,hu⟩
  ·rintro e ⟨h1,rfl⟩;exact⟨u,⟨by rw[hu.pl];exact h1,rfl⟩,hu⟩
 | .fin,N,O,_,_,_=>fun u d hu=>by
  simp only[Mg,Md]
  constructor
  ·rintro v ⟨h1,rfl⟩;exact⟨d,⟨by rw[<-hu.pl];exact h1,rfl⟩,hu⟩
  ·rintro e ⟨h1,rfl⟩;exact⟨u,⟨by rw[hu.pl];exact h1,rfl⟩,hu⟩
 | .back n,N,O,_,hb,ho=>fun u d hu=>by
  simp only[bks]at hb
  have hn:O n=none:=by
   cases hO:O n with
   |none=>rfl
   |some q=>
    have:=(ho n hb (by rw[hO];simp)).2
    simp only[nb]at this
    exact absurd rfl this
  obtain⟨hc,hq⟩:=hu.cl n hb hn
  simp only[Mg,Md]
  constructor
  ·rintro v ⟨a,b,h1,h2,rfl⟩
   exact⟨_,⟨a,b,by rw[hc,h1];rfl,by rw[<-hu.pl];exact h2,rfl⟩,⟨by show u.1+(b-a)=d.1+(b-a);rw[hu.pl],hu.len,hu.cl,hu.op⟩⟩
  ·rintro e ⟨a,b,h1,h2,rfl⟩
   rw[hc,Option.some.injEq]at h1
   exact⟨_,⟨a,b,encM_sp h1,by rw[hu.pl];exact h2,rfl⟩,⟨by show u.1+(b-a)=d.1+(b-a);rw[hu.pl],hu.len,hu.cl,hu.op⟩⟩
 | .grp n r,N,O,hg,hb,ho=>fun u d hu=>by
  simp only[gtN]at hg
  simp only[bks]at hb
  obtain⟨hNn,hnb,hgr⟩:=hg
  by_cases hn:n∈rf
  ·have hO':∀k∈rf,(fun k=>if k=n then some u.1 else O k) k≠none->k<=n/\nbs k r:=by
    intro k hk h
    by_cases e:k=n
    ·subst e;exact⟨Nat.le_refl _,hnb⟩
    ·simp only[e,if_false]at h
     have:=ho k hk h
     have h2:=this.2
     simp only[nb]at h2
     exact⟨by omega,h2⟩
   have ih:=mdRow_sim l rf h10 r n (fun k=>if k=n then some u.1 else O k) hgr hb hO'
   have hin:RelD rf (fun k=>if k=n then some u.1 else O k) (u.1,setM u.2 (rf.idxOf n) (.op u.1)) d:=by
    refine⟨hu.pl,hu.len,fun k hk h=>?_,fun k hk q h=>?_⟩
    ·by_cases e:k=n
     ·simp[e]at h
     ·simp only[e,if_false]at h
      dsimp only
      rw[setM_ne _ _ (fun e2=>e (idx_inj hk e2))]
      exact hu.cl k hk h
    ·by_cases e:k=n
     ·subst e
      simp only[if_true,Option.some.injEq]at h
      dsimp only
      rw[setM_same,h]
     ·simp only[e,if_false]at h
      dsimp only
      rw[setM_ne _ _ (fun e2=>e (idx_inj hk e2))]
      exact hu.op k hk q h
   have hout:∀x dx,RelD rf (fun k=>if k=n then some u.1 else O k) x dx->x.2 (rf.idxOf n)= .op u.1/\RelD rf O (x.1,setM x.2 (rf.idxOf n) (.sp u.1 x.1)) (dx.1,dx.2.set n ((d.1:Int),(dx.1:Int))):=by
    intro x dx hx
    refine⟨hx.op n hn u.1 (by simp),hx.pl,by simp[hx.len],fun k hk h=>?_,fun k hk q h=>?_⟩
    ·by_cases e:k=n
     ·subst e
      dsimp only
      rw[setM_same]
      refine⟨?_,fun q=>by simp⟩
      rw[List.getElem?_set_self (by rw[hx.len];exact h10 k hk)]
      simp[encM,hu.pl,hx.pl]
     ·dsimp only
      rw[setM_ne _ _ (fun e2=>e (idx_inj hk e2)),List.getElem?_set_ne (fun e2=>e e2.symm)]
      exact hx.cl k hk (by simp only[e,if_false];exact h)
    ·have hk2:=(ho k hk (by rw[h];simp)).1
     have e:k≠n:=by omega
     dsimp only
     rw[setM_ne _ _ (fun e2=>e (idx_inj hk e2))]
     exact hx.op k hk q (by simp only[e,if_false];exact h)
   simp only[Mg,Md,if_pos hn]
   constructor
   ·rintro v ⟨x,q,h1,h2,rfl⟩
    obtain⟨dx,k1,k2⟩:=(ih _ d hin).1 x h1
    obtain⟨k3,k4⟩:=hout x dx k2
    rw[k3]at h2
    cases h2
    exact⟨_,⟨dx,k1,rfl⟩,k4⟩
   ·rintro e ⟨dx,h1,rfl⟩
    obtain⟨x,k1,k2⟩:=(ih _ d hin).2 dx h1
    obtain⟨k3,k4⟩:=hout x dx k2
    exact⟨_,⟨x,u.1,k1,k3,rfl⟩,k4⟩
  ·have ih:=mdRow_sim l rf h10 r n O hgr hb (fun k hk h=>by
    have:=ho k hk h
    have h2:=this.2
    simp only[nb]at h2
    exact⟨by omega,h2⟩)
   simp only[Mg,Md,if_neg hn]
   constructor
   ·intro v h1
    obtain⟨dx,k1,k2⟩:=(ih u d hu).1 v h1
    exact⟨_,⟨dx,k1,rfl⟩,k2⟩
   ·rintro e ⟨dx,h1,rfl⟩
    exact(ih u d hu).2 dx h1
 | .rep a b x,N,O,hg,hb,ho=>by
  simp only[gtN]at hg
  simp only[bks]at hb
  have ih:=md_sim l rf h10 x N O hg hb (fun n hn h=>by
   have:=ho n hn h
   have h2:=this.2
   simp only[nb]at h2
   exact⟨this.1,h2⟩)
  have:=ih.rpt (fun _ _ h=>h.pl) a b
  intro u d hu
  simp only[Mg,Md]
  exact this u d hu
theorem mdRow_sim (l:List UInt8) (rf:List Nat) (h10:∀n∈rf,n<10):∀(r:List Tr) (N:Nat) (O:Nat->Option Nat),gtNs N r->bkss rf r->(∀n∈rf,O n≠none->n<=N/\nbs n r)->SimD (RelD rf O) (fun u v=>MgRow l rf r u v) (fun d e=>MdRow l rf r d e)
 | [],N,O,_,_,_=>fun u d hu=>by
  simp only[MgRow,MdRow]
  exact⟨fun v hv=>⟨d,rfl,by rw[hv];exact hu⟩,fun e he=>⟨u,rfl,by rw[he];exact hu⟩⟩
 |x::r,N,O,hg,hb,ho=>fun u d hu=>by
  simp only[gtNs]at hg
  simp only[bkss]at hb
  have i1:=md_sim l rf h10 x N O hg.1 hb.1 (fun n hn h=>by have:=ho n hn h;have h2:=this.2;simp only[nbs]at h2;exact⟨this.1,h2.1⟩)
  have i2:=mdRow_sim l rf h10 r N O hg.2 hb.2 (fun n hn h=>by have:=ho n hn h;have h2:=this.2;simp only[nbs]at h2;exact⟨this.1,h2.2⟩)
  simp only[MgRow,MdRow]
  constructor
  ·rintro v ⟨y,h1,h2⟩
   obtain⟨e,k1,k2⟩:=(i1 u d hu).1 y h1
   obtain⟨e2,k3,k4⟩:=(i2 y e k2).1 v h2
   exact⟨e2,⟨e,k1,k3⟩,k4⟩
  ·rintro e2 ⟨e,k1,k3⟩
   obtain⟨y,h1,k2⟩:=(i1 u d hu).2 e k1
   obtain⟨v,h2,k4⟩:=(i2 y e k2).2 e2 k3
   exact⟨v,⟨y,h1,h2⟩,k4⟩
end
def mk0:List (Int×Int):=List.replicate 10 (-1,-1)
theorem md_mg{p:List UInt8}(hok:(parseT p).1=0)(h10:∀n∈refT0 p,n<10)(s:List UInt8)(i j:Nat):(∃g,MdRow s (refT0 p) ((itsT p).map (·.3)) (i,mk0) (j,g))↔∃μ,MgRow s (refT0 p) ((itsT p).map (·.3)) (i,fun _=> .no) (j,μ):=by
 have h:=mdRow_sim s (refT0 p) h10 ((itsT p).map (·.3)) _ (fun _=>none) (gt_T hok) (refs_T hok).1 (fun n _ h=>absurd rfl h)
 have h0:RelD (refT0 p) (fun _=>none) (i,fun _=> .no) (i,mk0):=⟨rfl,rfl,fun n hn _=>⟨by
  have:=h10 n hn
  unfold mk0
  rw[List.getElem?_replicate,if_pos this]
  rfl,fun q=>by simp⟩,fun n _ q h=>by cases h⟩
 constructor
 ·rintro⟨g,hg⟩
  obtain⟨v,k1,k2⟩:=(h _ _ h0).2 _ hg
  obtain⟨j',μ⟩:=v
  obtain rfl:j'=j:=k2.pl
  exact⟨μ,k1⟩
 ·rintro⟨μ,hm⟩
  obtain⟨e,k1,k2⟩:=(h _ _ h0).1 _ hm
  obtain⟨j',g⟩:=e
  obtain rfl:j=j':=k2.pl
  exact⟨g,k1⟩
end Go.Proofs.YtldiemjlpnachaaGreatDoor
namespace Go.Proofs.YtldiemjlpnachaaGreatDoor
structure OkD(n:Nat)(rf:List Nat)(d:Ds):Prop where
 pl:d.1<=n
 len:d.2.length=10
 sp:∀k,k<10->∃s,d.2[k]?=some s/\(s=(-1,-1)\/∃a b:Nat,a<=b/\b<=n/\s=((a:Int),(b:Int)))
 no:∀k,k<10->k ∉ rf->d.2[k]?=some (-1,-1)
theorem okD_0{n i:Nat}(rf:List Nat)(h:i<=n):OkD n rf (i,mk0):=by
 have e:∀k,k<10->mk0[k]?=some (-1,-1):=fun k hk=>by unfold mk0;rw[List.getElem?_replicate,if_pos hk]
 exact⟨h,rfl,fun k hk=>⟨_,e k hk,.inl rfl⟩,fun k hk _=>e k hk⟩
def KeepD(n:Nat)(rf:List Nat)(R:Ds->Ds->Prop):Prop:=∀u v,OkD n rf u->R u v->OkD n rf v/\u.1<=v.1
theorem KeepD.pow{n:Nat}{rf:List Nat}{R:Ds->Ds->Prop}(h:KeepD n rf R):∀ {t:Nat} {u v:Ds},OkD n rf u->PowG R t u v->OkD n rf v/\u.1<=v.1
 |_,_,_,hu,.zero _=>⟨hu,Nat.le_refl _⟩
 |_,_,_,hu,.succ h1 h2=>by
  obtain⟨k1,k2⟩:=h _ _ hu h1
  obtain⟨k3,k4⟩:=KeepD.pow h k1 h2
  exact⟨k3,Nat.le_trans k2 k4⟩
theorem KeepD.adv{n:Nat}{rf:List Nat}{R:Ds->Ds->Prop}(h:KeepD n rf R):KeepD n rf (AdvD R):=fun u v hu hv=>h u v hu hv.1
mutual
theorem md_ok (l:List UInt8) (rf:List Nat) (h10:∀n∈rf,n<10):∀x:Tr,KeepD l.length rf (fun u v=>Md l rf x u v)
 | .one f=>fun u v hu h=>by
  simp only[Md]at h
  obtain⟨h1,_,rfl⟩:=h
  exact⟨⟨h1,hu.len,hu.sp,hu.no⟩,Nat.le_succ _⟩
 | .beg=>fun u v hu h=>by simp only[Md]at h;rw[h.2];exact⟨hu,Nat.le_refl _⟩
 | .fin=>fun u v hu h=>by simp only[Md]at h;rw[h.2];exact⟨hu,Nat.le_refl _⟩
 | .back k=>fun u v hu h=>by
  simp only[Md]at h
  obtain⟨a,b,_,h2,rfl⟩:=h
  exact⟨⟨h2.1,hu.len,hu.sp,hu.no⟩,Nat.le_add_right _ _⟩
 | .grp k r=>fun u v hu h=>by
  simp only[Md]at h
  obtain⟨x,h1,rfl⟩:=h
  obtain⟨k1,k2⟩:=mdRow_ok l rf h10 r u x hu h1
  by_cases hk:k∈rf
  ·simp only[if_pos hk]
   refine⟨⟨k1.pl,by simp[k1.len],fun q hq=>?_,fun q hq hn=>?_⟩,k2⟩
   ·by_cases e:q=k
    ·subst e
     exact⟨_,by rw[List.getElem?_set_self (by rw[k1.len];exact hq)],.inr ⟨u.1,x.1,k2,k1.pl,rfl⟩⟩
    ·rw[List.getElem?_set_ne (fun e2=>e e2.symm)]
     exact k1.sp q hq
   ·rw[List.getElem?_set_ne (fun e2=>hn (by rw[<-e2];exact hk))]
    exact k1.no q hq hn
  ·simp only[if_neg hk]
   exact⟨k1,k2⟩
 | .rep a b x=>fun u v hu h=>by
  simp only[Md]at h
  obtain⟨y,h1,t,_,h2⟩:=h
  have ih:=md_ok l rf h10 x
  obtain⟨k1,k2⟩:=ih.pow hu h1
  obtain⟨k3,k4⟩:=ih.adv.pow k1 h2
  exact⟨k3,Nat.le_trans k2 k4⟩
theorem mdRow_ok (l:List UInt8) (rf:List Nat) (h10:∀n∈rf,n<10):∀r:List Tr,KeepD l.length rf (fun u v=>MdRow l rf r u v)
 | []=>fun u v hu h=>by simp only[MdRow]at h;rw[h];exact⟨hu,Nat.le_refl _⟩
 |x::r=>fun u v hu h=>by
  simp only[MdRow]at h
  obtain⟨y,h1,h2⟩:=h
  obtain⟨k1,k2⟩:=md_ok l rf h10 x u y hu h1
  obtain⟨k3,k4⟩:=mdRow_ok l rf h10 r y v k1 h2
  exact⟨k3,Nat.le_trans k2 k4⟩
end
theorem nodup_len{α:Type} [DecidableEq α]:∀(L U:List α),L.Nodup->(∀x∈L,x∈U)->L.length<=U.length
 | [],_,_,_=>Nat.zero_le _
 |x::L,U,hn,hU=>by
  rw[List.nodup_cons]at hn
  have hx:=hU x (by simp)
  have:=nodup_len L (U.erase x) hn.2 (fun y hy=>(List.mem_erase_of_ne (fun e=>hn.1 (by rw[<-e];exact hy))).2 (hU y (by simp[hy])))
  rw[List.length_erase_of_mem hx]at this
  have hp:0<U.length:=List.length_pos_of_mem hx
  rw[List.length_cons]
  omega
def spansU(n:Nat):List (Int×Int):=(-1,-1)::(List.range (n+1)).flatMap fun a:Nat=>(List.range (n+1)).map fun b:Nat=>((a:Int),(b:Int))
def marksU(n:Nat):List Nat->List (List (Int×Int))
 | []=> [mk0]
 |g::r=>(marksU n r).flatMap fun m=>(spansU n).map fun s=>m.set g s
def allU(n:Nat)(rf:List Nat):List Ds:=(List.range (n+1)).flatMap fun i=>(marksU n rf).map fun m=>(i,m)
theorem len_flat{α β:Type}(f:α->List β)(k:Nat)(h:∀x,(f x).length=k):∀L:List α,(L.flatMap f).length=L.length*k
 | []=>by simp
 |x::L=>by rw[List.flatMap_cons,List.length_append,h,len_flat f k h L,List.length_cons,Nat.add_mul,Nat.one_mul,Nat.add_comm]
theorem spansU_len(n:Nat):(spansU n).length=(n+1)*(n+1)+1:=by
 unfold spansU
 rw[List.length_cons,len_flat _ (n+1) (fun x=>by simp),List.length_range]
theorem marksU_len(n:Nat):∀rf,(marksU n rf).length=((n+1)*(n+1)+1)^rf.length
 | []=>by simp[marksU]
 |g::r=>by rw[marksU,len_flat _ _ (fun m=>by rw[List.length_map,spansU_len]),marksU_len n r,List.length_cons,Nat.pow_succ]
theorem allU_len(n:Nat)(rf:List Nat):(allU n rf).length=(n+1)*((n+1)*(n+1)+1)^rf.length:=by
 unfold allU
 rw[len_flat _ _ (fun i=>by rw[List.length_map,marksU_len]),List.length_range]
theorem mem_marksU(n:Nat):∀(rf:List Nat) (m:List (Int×Int)),(∀k∈rf,k<10)->m.length=10->(∀k,k<10->∃s,m[k]?=some s/\s∈spansU n)->(∀k,k<10->k ∉ rf->m[k]?=some (-1,-1))->m∈marksU n rf
 | [],m,_,hl,_,hn=>by
  rw[marksU,List.mem_singleton]
  refine List.ext_getElem? fun k=>?_
  rcases Nat.lt_or_ge k 10 with h|h
  ·rw[hn k h (by simp)];unfold mk0;rw[List.getElem?_replicate,if_pos h]
  ·rw[List.getElem?_eq_none (by omega),List.getElem?_eq_none (by unfold mk0;rw[List.length_replicate];exact h)]
 |g::r,m,h10,hl,hs,hn=>by
  rw[marksU,List.mem_flatMap]
  have hg:=h10 g (by simp)
  have h0:((-1,-1):Int×Int)∈spansU n:=by unfold spansU;simp
  refine⟨m.set g (-1,-1),mem_marksU n r _ (fun k hk=>h10 k (by simp[hk])) (by simp[hl]) (fun k hk=>?_) (fun k hk hr=>?_),?_⟩
  ·by_cases e:k=g
   ·subst e;exact⟨_,by rw[List.getElem?_set_self (by omega)],h0⟩
   ·rw[List.getElem?_set_ne (fun e2=>e e2.symm)];exact hs k hk
  ·by_cases e:k=g
   ·subst e;rw[List.getElem?_set_self (by omega)]
   ·rw[List.getElem?_set_ne (fun e2=>e e2.symm)];exact hn k hk (by simp[e,hr])
  ·rw[List.mem_map]
   obtain⟨s,h1,h2⟩:=hs g hg
   refine⟨s,h2,?_⟩
   refine List.ext_getElem? fun k=>?_
   by_cases e:k=g
   ·subst e;rw[List.getElem?_set_self (by simp[hl];exact hg),h1]
   ·rw[List.getElem?_set_ne (fun e2=>e e2.symm),List.getElem?_set_ne (fun e2=>e e2.symm)]
theorem mem_allU{n:Nat}{rf:List Nat}(h10:∀k∈rf,k<10){d:Ds}(h:OkD n rf d):d∈allU n rf:=by
 unfold allU
 rw[List.mem_flatMap]
 refine⟨d.1,List.mem_range.2 (by have:=h.pl;omega),List.mem_map.2 ⟨d.2,mem_marksU n rf d.2 h10 h.len (fun k hk=>?_) h.no,rfl⟩⟩
 obtain⟨s,h1,h2⟩:=h.sp k hk
 refine⟨s,h1,?_⟩
 unfold spansU
 rcases h2 with rfl|⟨a,b,h2,h3,rfl⟩
 ·simp
 ·refine List.mem_cons_of_mem _ (List.mem_flatMap.2 ⟨a,List.mem_range.2 (by omega),List.mem_map.2 ⟨b,List.mem_range.2 (by omega),rfl⟩⟩)
def FitD(n:Nat)(rf:List Nat):Prop:=(∀k∈rf,k<10)/\rf.length<=2/\n<=1000000000/\(rf= []\/n<=24)
theorem okD_count{n:Nat}{rf:List Nat}(hf:FitD n rf){L:List Ds}(hn:L.Nodup)(hL:∀d∈L,OkD n rf d):L.length<=2000000000:=by
 obtain⟨h10,h2,h3,h4⟩:=hf
 have:=nodup_len L (allU n rf) hn (fun d hd=>mem_allU h10 (hL d hd))
 rw[allU_len]at this
 rcases h4 with rfl|h4
 ·simp at this;omega
 ·have hb:(n+1)*(n+1)+1<=626:=by
   have:=Nat.mul_le_mul (show n+1<=25 by omega) (show n+1<=25 by omega)
   omega
  have hp:((n+1)*(n+1)+1)^rf.length<=626^2:=Nat.le_trans (Nat.pow_le_pow_left hb _) (Nat.pow_le_pow_right (by omega) h2)
  have:=Nat.mul_le_mul (show n+1<=25 by omega) hp
  omega
end Go.Proofs.YtldiemjlpnachaaGreatDoor
namespace Go.Proofs.YtldiemjlpnachaaGreatDoor
def RkD(R:Ds->Ds->Prop)(m:Nat)(x:Ds)(t:Nat)(v:Ds):Prop:=∃y,PowG R m x y/\PowG (AdvD R) t y v
theorem PowG.snoc{α:Type}{R:α->α->Prop}:∀ {n:Nat} {u v y:α},PowG R n u v->R v y->PowG R (n+1) u y
 |_,_,_,_,.zero _,h=> .succ h (.zero _)
 |_,_,_,_,.succ h1 h2,h=> .succ h1 (h2.snoc h)
theorem PowG.unsnoc{α:Type}{R:α->α->Prop}:∀ {n:Nat} {u y:α},PowG R (n+1) u y->∃v,PowG R n u v/\R v y
 |0,_,_,.succ h1 h2=>by cases h2;exact⟨_,.zero _,h1⟩
 |n+1,_,_,.succ h1 h2=>by
  obtain⟨v,k1,k2⟩:=PowG.unsnoc h2
  exact⟨v,.succ h1 k1,k2⟩
theorem PowG.cut{α:Type}{R:α->α->Prop}:∀ {n m:Nat} {u y:α},PowG R (n+m) u y->∃v,PowG R n u v
 |0,_,u,_,_=>⟨u,.zero _⟩
 |n+1,m,u,y,h=>by
  rw[show n+1+m=n+m+1 by omega]at h
  cases h with
  |succ h1 h2=>
   obtain⟨v,k⟩:=PowG.cut h2
   exact⟨v,.succ h1 k⟩
theorem RkD.snoc{R:Ds->Ds->Prop}{m:Nat}{x v y:Ds}{t:Nat}(h:RkD R m x t v)(hr:AdvD R v y):RkD R m x (t+1) y:=by
 obtain⟨z,h1,h2⟩:=h
 exact⟨z,h1,h2.snoc hr⟩
theorem RkD.unsnoc{R:Ds->Ds->Prop}{m:Nat}{x y:Ds}{t:Nat}(h:RkD R m x (t+1) y):∃v,RkD R m x t v/\AdvD R v y:=by
 obtain⟨z,h1,h2⟩:=h
 obtain⟨v,k1,k2⟩:=h2.unsnoc
 exact⟨v,⟨z,h1,k1⟩,k2⟩
theorem advD_bound{R:Ds->Ds->Prop}:∀ {t:Nat} {u v:Ds},PowG (AdvD R) t u v->u.1+t<=v.1
 |_,_,_,.zero _=>Nat.le_refl _
 |_,_,_,.succ h1 h2=>by
  have:=advD_bound h2
  have:=h1.2
  omega
theorem RkD.bound{R:Ds->Ds->Prop}{m:Nat}{x v:Ds}{t:Nat}(h:RkD R m x t v):t<=v.1:=by
 obtain⟨z,_,h2⟩:=h
 have:=advD_bound h2
 omega
theorem RkD.zero{R:Ds->Ds->Prop}{m:Nat}{x v:Ds}:RkD R m x 0 v↔PowG R m x v:=by
 constructor
 ·rintro⟨y,h1,h2⟩;cases h2;exact h1
 ·exact fun h=>⟨v,h,.zero _⟩
theorem rptD_iff{R:Ds->Ds->Prop}{m:Nat}{mx:Int}{x v:Ds}:RptD R m mx x v↔∃t,(mx= -1\/t<=(mx-m).toNat)/\RkD R m x t v:=by
 unfold RptD RkD
 rw[Int.toNat_natCast]
 constructor
 ·rintro⟨y,h1,t,h2,h3⟩;exact⟨t,h2,y,h1,h3⟩
 ·rintro⟨t,h2,y,h1,h3⟩;exact⟨y,h1,t,h2,h3⟩
def HiD(R:Ds->Ds->Prop)(m:Nat)(mx:Int)(x:Ds)(t:Nat)(L O:List Ds):Prop:=
 (0<=mx/\(m:Int)+t<=mx/\(∀v,v∈L↔RkD R m x t v)/\∀v,v∈O↔∃t',t'<t/\RkD R m x t' v)\/
 (mx= -1/\(∀v∈L,RkD R m x t v)/\(∀v∈O,∃t',RkD R m x t' v)/\(∀y,PowG R m x y->y∈O\/y∈L)/\∀z∈O,∀y,AdvD R z y->y∈O\/y∈L)
def TmD(R:Ds->Ds->Prop)(m:Nat)(mx:Int)(x:Ds)(k:Nat)(L O:List Ds):Prop:=
 (k<m/\O= []/\∀v,v∈L↔PowG R k x v)\/(m<=k/\HiD R m mx x (k-m) L O)
theorem hiD_zero{R:Ds->Ds->Prop}{m:Nat}{mx:Int}{x:Ds}{L:List Ds}(hmx:mx= -1\/(m:Int)<=mx)(h:∀v,v∈L↔PowG R m x v):HiD R m mx x 0 L []:=by
 rcases hmx with e|e
 ·exact .inr ⟨e,fun v hv=>RkD.zero.2 ((h v).1 hv),fun v hv=>(by simp at hv),fun y hy=> .inr ((h y).2 hy),fun z hz=>(by simp at hz)⟩
 ·refine .inl ⟨by omega,by omega,fun v=>(h v).trans RkD.zero.symm,fun v=>?_⟩
  simp
theorem tmD_start{R:Ds->Ds->Prop}{m:Nat}{mx:Int}{x:Ds}(hmx:mx= -1\/(m:Int)<=mx):TmD R m mx x 0 [x] []:=by
 have h:∀v,v∈ [x]↔PowG R 0 x v:=fun v=>by
  rw[List.mem_singleton]
  constructor
  ·rintro rfl;exact .zero _
  ·intro h;cases h;rfl
 rcases Nat.eq_zero_or_pos m with rfl|hm
 ·exact .inr ⟨Nat.le_refl _,hiD_zero hmx h⟩
 ·exact .inl ⟨hm,rfl,h⟩
theorem tmD_low{R:Ds->Ds->Prop}{m:Nat}{mx:Int}{x:Ds}{k:Nat}{L O L':List Ds}(hmx:mx= -1\/(m:Int)<=mx)(h:TmD R m mx x k L O)(hk:k<m)(h':∀v,v∈L'↔∃z∈L,R z v):TmD R m mx x (k+1) L' O:=by
 rcases h with⟨_,rfl,hL⟩|⟨hc,_⟩
 ·have hL':∀v,v∈L'↔PowG R (k+1) x v:=fun v=>by
   rw[h' v]
   constructor
   ·rintro⟨z,h1,h2⟩;exact((hL z).1 h1).snoc h2
   ·intro h1
    obtain⟨z,k1,k2⟩:=h1.unsnoc
    exact⟨z,(hL z).2 k1,k2⟩
  rcases Nat.lt_or_ge (k+1) m with h1|h1
  ·exact .inl ⟨h1,rfl,hL'⟩
  ·obtain rfl:m=k+1:=by omega
   exact .inr ⟨Nat.le_refl _,by rw[Nat.sub_self];exact hiD_zero hmx hL'⟩
 ·omega
theorem tmD_none{R:Ds->Ds->Prop}{m:Nat}{mx:Int}{x:Ds}{k:Nat}{O:List Ds}(h:TmD R m mx x k [] O)(hk:k<m):O= []/\∀v,¬RptD R m mx x v:=by
 rcases h with⟨_,rfl,hL⟩|⟨hc,_⟩
 ·refine⟨rfl,fun v hv=>?_⟩
  obtain⟨t,_,y,h1,_⟩:=rptD_iff.1 hv
  obtain⟨q,rfl⟩:∃q,m=k+q:=⟨m-k,by omega⟩
  obtain⟨z,hz⟩:=h1.cut
  have:=(hL z).2 hz
  simp at this
 ·omega
theorem tmD_bound{R:Ds->Ds->Prop}{m:Nat}{mx:Int}{x:Ds}{k:Nat}{L O:List Ds}(h:TmD R m mx x k L O)(hk:m<=k):∀v∈L,k-m<=v.1:=by
 rcases h with⟨hc,_⟩|⟨_,h|h⟩
 ·omega
 ·exact fun v hv=>((h.2.2.1 v).1 hv).bound
 ·exact fun v hv=>(h.2.1 v hv).bound
theorem rkD_keep{n:Nat}{rf:List Nat}{R:Ds->Ds->Prop}(hR:KeepD n rf R){m t:Nat}{x v:Ds}(hx:OkD n rf x)(h:RkD R m x t v):OkD n rf v:=by
 obtain⟨y,h1,h2⟩:=h
 exact(hR.adv.pow (hR.pow hx h1).1 h2).1
theorem tmD_ok{n:Nat}{rf:List Nat}{R:Ds->Ds->Prop}(hR:KeepD n rf R){m:Nat}{mx:Int}{x:Ds}{k:Nat}{L O:List Ds}(hx:OkD n rf x)(h:TmD R m mx x k L O):(∀v∈L,OkD n rf v)/\∀v∈O,OkD n rf v:=by
 rcases h with⟨_,rfl,hL⟩|⟨_,h|h⟩
 ·exact⟨fun v hv=>(hR.pow hx ((hL v).1 hv)).1,fun v hv=>by simp at hv⟩
 ·refine⟨fun v hv=>rkD_keep hR hx ((h.2.2.1 v).1 hv),fun v hv=>?_⟩
  obtain⟨t,_,h1⟩:=(h.2.2.2 v).1 hv
  exact rkD_keep hR hx h1
 ·refine⟨fun v hv=>rkD_keep hR hx (h.2.1 v hv),fun v hv=>?_⟩
  obtain⟨t,h1⟩:=h.2.2.1 v hv
  exact rkD_keep hR hx h1
def frD(mx:Int)(O:List Ds)(L:List Ds):List Ds:=L.filter fun z=>decide (z ∉ O)||decide (0<=mx)
theorem mem_frD{mx:Int}{O L:List Ds}{z:Ds}:z∈frD mx O L↔z∈L/\(z ∉ O\/0<=mx):=by unfold frD;simp
theorem tmD_end{R:Ds->Ds->Prop}{m:Nat}{mx:Int}{x:Ds}{k:Nat}{L O O':List Ds}(h:TmD R m mx x k L O)(hk:m<=k)(hO:∀v,v∈O'↔v∈O\/v∈L)(he:frD mx O L= []\/(k:Int)=mx):∀v,v∈O'↔RptD R m mx x v:=by
 intro v
 rw[rptD_iff,hO v]
 rcases h with⟨hc,_⟩|⟨_,h|h⟩
 ·omega
 ·obtain⟨h0,h1,hL,hOO⟩:=h
  rw[hL v,hOO v]
  constructor
  ·rintro(⟨t,h2,h3⟩|h3)
   ·exact⟨t,.inr (by omega),h3⟩
   ·exact⟨_,.inr (by omega),h3⟩
  ·rintro⟨t,h2,h3⟩
   have h2':t<=(mx-m).toNat:=h2.resolve_left (by omega)
   rcases he with he|he
   ·rcases Nat.lt_or_ge t (k-m)with h4|h4
    ·exact .inl ⟨t,h4,h3⟩
    ·exfalso
     have hno:∀u,¬RkD R m x (k-m) u:=fun u hu=>by
      have:u∈frD mx O L:=mem_frD.2 ⟨(hL u).2 hu,.inr h0⟩
      rw[he]at this
      simp at this
     obtain⟨y,h5,h6⟩:=h3
     obtain⟨q,rfl⟩:∃q,t=(k-m)+q:=⟨t-(k-m),by omega⟩
     obtain⟨u,hu⟩:=h6.cut
     exact hno u ⟨y,h5,hu⟩
   ·rcases Nat.lt_or_ge t (k-m)with h4|h4
    ·exact .inl ⟨t,h4,h3⟩
    ·obtain rfl:t=k-m:=by omega
     exact .inr h3
 ·obtain⟨h0,hL,hOO,hb,hc⟩:=h
  constructor
  ·rintro(h1|h1)
   ·obtain⟨t,h2⟩:=hOO v h1;exact⟨t,.inl h0,h2⟩
   ·exact⟨_,.inl h0,hL v h1⟩
  ·rintro⟨t,h9,h3⟩
   clear h9
   have he':frD mx O L= []:=he.resolve_right (by omega)
   have hLO:∀z∈L,z∈O:=fun z hz=>Classical.byContradiction fun hn=>by
    have:z∈frD mx O L:=mem_frD.2 ⟨hz,.inl hn⟩
    rw[he']at this
    simp at this
   left
   induction t generalizing v with
   |zero=>exact(hb v (RkD.zero.1 h3)).elim id (hLO v)
   |succ t ih=>
    obtain⟨u,h4,h5⟩:=h3.unsnoc
    exact(hc u (ih u h4) v h5).elim id (hLO v)
theorem tmD_next{R:Ds->Ds->Prop}{m:Nat}{mx:Int}{x:Ds}{k:Nat}{L O O' L':List Ds}(h:TmD R m mx x k L O)(hk:m<=k)(hO:∀v,v∈O'↔v∈O\/v∈L)(he:(k:Int)≠mx)(hL':∀v,v∈L'↔∃z∈frD mx O L,AdvD R z v):TmD R m mx x (k+1) L' O':=by
 refine .inr ⟨by omega,?_⟩
 rw[show k+1-m=k-m+1 by omega]
 rcases h with⟨hc,_⟩|⟨_,h|h⟩
 ·omega
 ·obtain⟨h0,h1,hL,hOO⟩:=h
  refine .inl ⟨h0,by omega,fun v=>?_,fun v=>?_⟩
  ·rw[hL' v]
   constructor
   ·rintro⟨z,h2,h3⟩
    exact((hL z).1 (mem_frD.1 h2).1).snoc h3
   ·intro h2
    obtain⟨z,h3,h4⟩:=h2.unsnoc
    exact⟨z,mem_frD.2 ⟨(hL z).2 h3,.inr h0⟩,h4⟩
  ·rw[hO v,hOO v,hL v]
   constructor
   ·rintro(⟨t,h2,h3⟩|h3)
    ·exact⟨t,by omega,h3⟩
    ·exact⟨_,Nat.lt_succ_self _,h3⟩
   ·rintro⟨t,h2,h3⟩
    rcases Nat.lt_or_ge t (k-m)with h4|h4
    ·exact .inl ⟨t,h4,h3⟩
    ·obtain rfl:t=k-m:=by omega
     exact .inr h3
 ·obtain⟨h0,hL,hOO,hb,hc⟩:=h
  refine .inr ⟨h0,fun v hv=>?_,fun v hv=>?_,fun y hy=>?_,fun z hz y hy=>?_⟩
  ·obtain⟨z,h2,h3⟩:=(hL' v).1 hv
   exact(hL z (mem_frD.1 h2).1).snoc h3
  ·rcases(hO v).1 hv with h2|h2
   ·exact hOO v h2
   ·exact⟨_,hL v h2⟩
  ·exact .inl ((hO y).2 (hb y hy))
  ·rcases(hO z).1 hz with h2|h2
   ·exact .inl ((hO y).2 (hc z h2 y hy))
   ·by_cases hzO:z∈O
    ·exact .inl ((hO y).2 (hc z hzO y hy))
    ·exact .inr ((hL' y).2 ⟨z,mem_frD.2 ⟨h2,.inl hzO⟩,hy⟩)
end Go.Proofs.YtldiemjlpnachaaGreatDoor

import Derived.Test.YtldiemjlpnachaaGreatDoorNfa
namespace Go.Proofs.YtldiemjlpnachaaGreatDoor
inductive Mark where
 |no
 |op (p:Nat)
 |sp (a b:Nat)
abbrev Mks:=Nat->Mark
abbrev Cf:=Nat×Mks
def setM(μ:Mks)(s:Nat)(m:Mark):Mks:=fun t=>if t=s then m else μ t
def Stands(l:List UInt8)(a b i:Nat):Prop:=i+(b-a)<=l.length/\∀t,t<b-a->ch l (a+t)=ch l (i+t)
inductive PowG {α:Type} (R:α->α->Prop):Nat->α->α->Prop
 |zero (u:α):PowG R 0 u u
 |succ {n:Nat} {u v x:α}:R u v->PowG R n v x->PowG R (n+1) u x
theorem PowG.add{α:Type}{R:α->α->Prop}:∀ {n:Nat} {u v:α} {m:Nat} {x:α},PowG R n u v->PowG R m v x->PowG R (n+m) u x
 |_,_,_,m,_,.zero _,h=>by rw[Nat.zero_add];exact h
 |_,_,_,m,_,.succ (n:=n) h1 h2,h=>by rw[Nat.add_right_comm];exact .succ h1 (h2.add h)
def Adv(R:Cf->Cf->Prop):Cf->Cf->Prop:=fun u v=>R u v/\u.1<v.1
def Fwd(R:Cf->Cf->Prop):Prop:=∀u v,R u v->u.1<=v.1
theorem Fwd.pow{R:Cf->Cf->Prop}(h:Fwd R):∀ {n:Nat} {u v:Cf},PowG R n u v->u.1<=v.1
 |_,_,_,.zero _=>Nat.le_refl _
 |_,_,_,.succ h1 h2=>Nat.le_trans (h _ _ h1) (h.pow h2)
theorem Fwd.adv{R:Cf->Cf->Prop}:Fwd (Adv R):=fun _ _ h=>Nat.le_of_lt h.2
def Rpt(R:Cf->Cf->Prop)(a b:Int):Cf->Cf->Prop:=fun u v=>∃x,PowG R a.toNat u x/\∃t,(b= -1\/t<=(b-a).toNat)/\PowG (Adv R) t x v
theorem Fwd.rpt{R:Cf->Cf->Prop}(h:Fwd R)(a b:Int):Fwd (Rpt R a b):=by
 rintro u v ⟨x,h1,t,_,h2⟩
 exact Nat.le_trans (h.pow h1) (Fwd.adv.pow h2)
mutual
def Mg (l:List UInt8) (rf:List Nat):Tr->Cf->Cf->Prop
 | .one f,u,v=>u.1<l.length/\f (ch l u.1)=true/\v=(u.1+1,u.2)
 | .beg,u,v=>u.1=0/\v=u
 | .fin,u,v=>u.1=l.length/\v=u
 | .back n,u,v=>∃a b,u.2 (rf.idxOf n)= .sp a b/\Stands l a b u.1/\v=(u.1+(b-a),u.2)
 | .grp n r,u,v=>if n∈rf then ∃x q,MgRow l rf r (u.1,setM u.2 (rf.idxOf n) (.op u.1)) x/\x.2 (rf.idxOf n)= .op q/\v=(x.1,setM x.2 (rf.idxOf n) (.sp q x.1))else MgRow l rf r u v
 | .rep a b x,u,v=>Rpt (fun u v=>Mg l rf x u v) a b u v
def MgRow (l:List UInt8) (rf:List Nat):List Tr->Cf->Cf->Prop
 | [],u,v=>v=u
 |x::r,u,v=>∃y,Mg l rf x u y/\MgRow l rf r y v
end
mutual
theorem mg_fwd (l:List UInt8) (rf:List Nat):∀x:Tr,Fwd (fun u v=>Mg l rf x u v)
 | .one f=>by intro u v h;simp only[Mg]at h;obtain⟨_,_,rfl⟩:=h;simp
 | .beg=>by intro u v h;simp only[Mg]at h;rw[h.2];exact Nat.le_refl _
 | .fin=>by intro u v h;simp only[Mg]at h;rw[h.2];exact Nat.le_refl _
 | .back n=>by intro u v h;simp only[Mg]at h;obtain⟨a,b,_,_,rfl⟩:=h;simp
 | .grp n r=>by
  intro u v h
  simp only[Mg]at h
  split at h
  ·obtain⟨x,q,h1,_,rfl⟩:=h
   exact mg_row_fwd l rf r (u.1,setM u.2 (rf.idxOf n) (.op u.1)) x h1
  ·exact mg_row_fwd l rf r _ _ h
 | .rep a b x=>by intro u v h;simp only[Mg]at h;exact(mg_fwd l rf x).rpt a b u v h
theorem mg_row_fwd (l:List UInt8) (rf:List Nat):∀r:List Tr,Fwd (fun u v=>MgRow l rf r u v)
 | []=>by intro u v h;simp only[MgRow]at h;rw[h];exact Nat.le_refl _
 |x::r=>by
  intro u v h
  simp only[MgRow]at h
  obtain⟨y,h1,h2⟩:=h
  exact Nat.le_trans (mg_fwd l rf x _ _ h1) (mg_row_fwd l rf r _ _ h2)
end
theorem pow_lt{R:Cf->Cf->Prop}(hf:Fwd R)(ha:∀u v,R u v->u.1<v.1):∀ {n:Nat} {u v:Cf},0<n->PowG R n u v->u.1<v.1
 |_+1,_,_,_,.succ h1 h2=>Nat.lt_of_lt_of_le (ha _ _ h1) (hf.pow h2)
mutual
theorem hasB_adv (l:List UInt8) (rf:List Nat):∀x:Tr,hasB x=true->∀u v,Mg l rf x u v->u.1<v.1
 | .one f,_=>by intro u v h;simp only[Mg]at h;obtain⟨_,_,rfl⟩:=h;simp
 | .beg,h=>by simp[hasB]at h
 | .fin,h=>by simp[hasB]at h
 | .back n,h=>by simp[hasB]at h
 | .grp n r,hb=>by
  intro u v h
  simp only[hasB]at hb
  simp only[Mg]at h
  split at h
  ·obtain⟨x,q,h1,_,rfl⟩:=h
   exact hasBs_adv l rf r hb (u.1,setM u.2 (rf.idxOf n) (.op u.1)) x h1
  ·exact hasBs_adv l rf r hb _ _ h
 | .rep a b x,hb=>by
  intro u v h
  simp only[hasB,Bool.and_eq_true,decide_eq_true_eq]at hb
  simp only[Mg]at h
  obtain⟨y,h1,t,_,h2⟩:=h
  exact Nat.lt_of_lt_of_le (pow_lt (mg_fwd l rf x) (hasB_adv l rf x hb.2) (by omega) h1) (Fwd.adv.pow h2)
theorem hasBs_adv (l:List UInt8) (rf:List Nat):∀r:List Tr,hasBs r=true->∀u v,MgRow l rf r u v->u.1<v.1
 | [],h=>by simp[hasBs]at h
 |x::r,hb=>by
  intro u v h
  simp only[hasBs,Bool.or_eq_true]at hb
  simp only[MgRow]at h
  obtain⟨y,h1,h2⟩:=h
  rcases hb with hb|hb
  ·exact Nat.lt_of_lt_of_le (hasB_adv l rf x hb _ _ h1) (mg_row_fwd l rf r _ _ h2)
  ·exact Nat.lt_of_le_of_lt (mg_fwd l rf x _ _ h1) (hasBs_adv l rf r hb _ _ h2)
end
theorem adv_same{R:Cf->Cf->Prop}(h:∀u v,R u v->u.1<v.1):Adv R=R:=by
 funext u v
 exact propext ⟨fun k=>k.1,fun k=>⟨k,h u v k⟩⟩
inductive RunG (l:List UInt8) (D:List Sd):Nat->Nat->Nat->Cf->Nat->Prop
 |done {p v d:Nat} {u:Cf}:D[p]?=some (.done,d)->RunG l D 0 p v u u.1
 |one {m p v d n j:Nat} {u:Cf} {f:Nat->Bool}:D[p]?=some (.one f n,d)->u.1<l.length->f (ch l u.1)=true->RunG l D m n d (u.1+1,u.2) j->RunG l D (m+1) p v u j
 |beg {m p v d n j:Nat} {u:Cf}:D[p]?=some (.beg n,d)->u.1=0->RunG l D m n v u j->RunG l D (m+1) p v u j
 |fin {m p v d n j:Nat} {u:Cf}:D[p]?=some (.fin n,d)->u.1=l.length->RunG l D m n v u j->RunG l D (m+1) p v u j
 |forkL {m p v d n o j:Nat} {u:Cf}:D[p]?=some (.fork n o,d)->RunG l D m n v u j->RunG l D (m+1) p v u j
 |forkR {m p v d n o j:Nat} {u:Cf}:D[p]?=some (.fork n o,d)->RunG l D m o v u j->RunG l D (m+1) p v u j
 |opn {m p v d s n j:Nat} {u:Cf}:D[p]?=some (.opn s n,d)->RunG l D m n v (u.1,setM u.2 s (.op u.1)) j->RunG l D (m+1) p v u j
 |shut {m p v d s n j q:Nat} {u:Cf}:D[p]?=some (.shut s n,d)->u.2 s= .op q->RunG l D m n v (u.1,setM u.2 s (.sp q u.1)) j->RunG l D (m+1) p v u j
 |bck {m p v d s n j a b:Nat} {u:Cf}:D[p]?=some (.bck s n,d)->u.2 s= .sp a b->Stands l a b u.1->RunG l D m n (if a<b then d else v) (u.1+(b-a),u.2) j->RunG l D (m+1) p v u j
 |gain {m p v d n j:Nat} {u:Cf}:D[p]?=some (.gain n,d)->v=d->RunG l D m n (v-1) u j->RunG l D (m+1) p v u j
def adv(d i j v:Nat):Nat:=if i<j then d else v
theorem adv_le{d i j v:Nat}(h:v<=d):adv d i j v<=d:=by unfold adv;split<;>omega
theorem adv_adv{d i j k v:Nat}(h1:i<=j)(h2:j<=k):adv d j k (adv d i j v)=adv d i k v:=by
 unfold adv
 by_cases a:i<j
 ·have b:i<k:=by omega
  rw[if_pos a,if_pos b]
  split<;>rfl
 ·by_cases b:j<k
  ·have e:i<k:=by omega
   rw[if_pos b,if_pos e]
  ·have e:¬i<k:=by omega
   rw[if_neg b,if_neg a,if_neg e]
theorem adv_refl(d i v:Nat):adv d i i v=v:=by unfold adv;rw[if_neg (by omega)]
def HasD(D c':List Sd)(a:Nat):Prop:=∀k,a<=k->k<c'.length->D[k]?=c'[k]?
structure Frg (l : List UInt8) (M : Cf → Cf → Prop) (d n : Nat) (c : List Sd) (r : List Sd × Nat) : Prop where
  len : c.length ≤ r.1.length
  pre : ∀ k, k < c.length → r.1[k]? = c[k]?
  to : ∀ D, HasD D r.1 c.length → ∀ m v u j, v ≤ d → RunG l D m r.2 v u j → ∃ x m', m' ≤ m ∧ M u x ∧ RunG l D m' n (adv d u.1 x.1 v) x j
  from_ : ∀ D, HasD D r.1 c.length → ∀ v u x j, v ≤ d → M u x → (∃ m, RunG l D m n (adv d u.1 x.1 v) x j) → ∃ m, RunG l D m r.2 v u j
def FrgG(l:List UInt8)(M:Cf->Cf->Prop)(g:Lay):Prop:=∀d n c,Frg l M d n c (g d n c)
theorem frg_nil(l:List UInt8)(d n:Nat)(c:List Sd):Frg l (fun u v=>v=u) d n c (c,n):=
 ⟨Nat.le_refl _,fun _ _=>rfl,fun _ _ m v u j _ h=>⟨u,m,Nat.le_refl _,rfl,by rw[adv_refl];exact h⟩,fun _ _ v u x j _ hx h=>by subst hx;rw[adv_refl]at h;exact h⟩
theorem hasD_last{D c:List Sd}{x:Sd}(h:HasD D (c++ [x]) c.length):D[c.length]?=some x:=by
 rw[h c.length (Nat.le_refl _) (by simp)]
 simp
theorem Frg.congr{l:List UInt8}{M N:Cf->Cf->Prop}{d n:Nat}{c:List Sd}{r:List Sd×Nat}(h:Frg l M d n c r)(e:∀u v,M u v↔N u v):Frg l N d n c r:=by
 have:M=N:=by funext u v;exact propext (e u v)
 rw[<-this];exact h
theorem frg_one(l:List UInt8)(f:Nat->Bool):FrgG l (fun u v=>u.1<l.length/\f (ch l u.1)=true/\v=(u.1+1,u.2)) (fun d n c=>(c++ [(.one f n,d)],c.length)):=by
 intro d n c
 refine⟨by simp,fun k hk=>by simp[List.getElem?_append_left hk],fun D hD m v u j hv h=>?_,fun D hD v u x j hv hx h=>?_⟩
 ·have e:=hasD_last hD
  cases h with
  |one h1 h2 h3 h4=>
   rw[e]at h1;cases h1
   exact⟨_,_,Nat.le_succ _,⟨h2,h3,rfl⟩,by show RunG l D _ n (adv d u.1 (u.1+1) v) _ j;unfold adv;rw[if_pos (by omega)];exact h4⟩
  |_ h1=>rw[e]at h1;cases h1
 ·obtain⟨h1,h2,rfl⟩:=hx
  obtain⟨m,h⟩:=h
  refine⟨_,.one (hasD_last hD) h1 h2 (m:=m) ?_⟩
  have h':RunG l D m n (adv d u.1 (u.1+1) v) (u.1+1,u.2) j:=h
  unfold adv at h'
  rw[if_pos (by omega)]at h'
  exact h'
theorem frg_beg(l:List UInt8):FrgG l (fun u v=>u.1=0/\v=u) (fun d n c=>(c++ [(.beg n,d)],c.length)):=by
 intro d n c
 refine⟨by simp,fun k hk=>by simp[List.getElem?_append_left hk],fun D hD m v u j hv h=>?_,fun D hD v u x j hv hx h=>?_⟩
 ·have e:=hasD_last hD
  cases h with
  |beg h1 h2 h3=>rw[e]at h1;cases h1;exact⟨_,_,Nat.le_succ _,⟨h2,rfl⟩,by rw[adv_refl];exact h3⟩
  |_ h1=>rw[e]at h1;cases h1
 ·obtain⟨h1,rfl⟩:=hx
  obtain⟨m,h⟩:=h
  rw[adv_refl]at h
  exact⟨_,.beg (hasD_last hD) h1 h⟩
theorem frg_fin(l:List UInt8):FrgG l (fun u v=>u.1=l.length/\v=u) (fun d n c=>(c++ [(.fin n,d)],c.length)):=by
 intro d n c
 refine⟨by simp,fun k hk=>by simp[List.getElem?_append_left hk],fun D hD m v u j hv h=>?_,fun D hD v u x j hv hx h=>?_⟩
 ·have e:=hasD_last hD
  cases h with
  |fin h1 h2 h3=>rw[e]at h1;cases h1;exact⟨_,_,Nat.le_succ _,⟨h2,rfl⟩,by rw[adv_refl];exact h3⟩
  |_ h1=>rw[e]at h1;cases h1
 ·obtain⟨h1,rfl⟩:=hx
  obtain⟨m,h⟩:=h
  rw[adv_refl]at h
  exact⟨_,.fin (hasD_last hD) h1 h⟩
theorem adv_bck(d i a b v:Nat):adv d i (i+(b-a)) v=if a<b then d else v:=by
 unfold adv
 by_cases h:a<b
 ·rw[if_pos h,if_pos (by omega)]
 ·rw[if_neg h,if_neg (by omega)]
theorem frg_bck(l:List UInt8)(s:Nat):FrgG l (fun u v=>∃a b,u.2 s= .sp a b/\Stands l a b u.1/\v=(u.1+(b-a),u.2)) (fun d n c=>(c++ [(.bck s n,d)],c.length)):=by
 intro d n c
 refine⟨by simp,fun k hk=>by simp[List.getElem?_append_left hk],fun D hD m v u j hv h=>?_,fun D hD v u x j hv hx h=>?_⟩
 ·have e:=hasD_last hD
  cases h with
  |bck h1 h2 h3 h4=>rw[e]at h1;cases h1;exact⟨_,_,Nat.le_succ _,⟨_,_,h2,h3,rfl⟩,by rw[adv_bck];exact h4⟩
  |_ h1=>rw[e]at h1;cases h1
 ·obtain⟨a,b,h1,h2,rfl⟩:=hx
  obtain⟨m,h⟩:=h
  rw[adv_bck]at h
  exact⟨_,.bck (hasD_last hD) h1 h2 h⟩
theorem Frg.seq{l:List UInt8}{M N:Cf->Cf->Prop}{d n:Nat}{c:List Sd}{r:List Sd×Nat}{g:Lay}(hM:Fwd M)(hN:Fwd N)(h:Frg l N d n c r)(hg:FrgG l M g):Frg l (fun u v=>∃x,M u x/\N x v) d n c (g d r.2 r.1):=by
 have hb:=hg d r.2 r.1
 have has1:∀D,HasD D (g d r.2 r.1).1 c.length->HasD D r.1 c.length:=fun D hD k h1 h2=>by rw[hD k h1 (by have:=hb.len;omega),hb.pre k h2]
 have has2:∀D,HasD D (g d r.2 r.1).1 c.length->HasD D (g d r.2 r.1).1 r.1.length:=fun D hD k h1 h2=>hD k (by have:=h.len;omega) h2
 refine⟨Nat.le_trans h.len hb.len,fun k hk=>by rw[hb.pre k (by have:=h.len;omega),h.pre k hk],fun D hD m v u j hv hr=>?_,fun D hD v u x j hv hx hr=>?_⟩
 ·obtain⟨x,m1,h1,h2,h3⟩:=hb.to D (has2 D hD) m v u j hv hr
  obtain⟨y,m2,h4,h5,h6⟩:=h.to D (has1 D hD) m1 _ x j (adv_le hv) h3
  rw[adv_adv (hM _ _ h2) (hN _ _ h5)]at h6
  exact⟨y,m2,by omega,⟨x,h2,h5⟩,h6⟩
 ·obtain⟨y,h1,h2⟩:=hx
  refine hb.from_ D (has2 D hD) v u y j hv h1 (h.from_ D (has1 D hD) _ y x j (adv_le hv) h2 ?_)
  rw[adv_adv (hM _ _ h1) (hN _ _ h2)]
  exact hr
theorem frg_copies{l:List UInt8}{M N:Cf->Cf->Prop}{g:Lay}(hM:Fwd M)(hN:Fwd N)(hg:FrgG l M g){d n:Nat}{c c0:List Sd}{e:Nat}(h:Frg l N d n c0 (c,e)):∀t,Frg l (fun u v=>∃x,PowG M t u x/\N x v) d n c0 (copiesD g d t e c)
 |0=>h.congr (fun u v=>⟨fun h=>⟨u,.zero _,h⟩,fun⟨k,h1,h2⟩=>by cases h1;exact h2⟩)
 |t+1=>by
  refine(Frg.seq hM ?_ (frg_copies hM hN hg h t) hg).congr (fun u v=>⟨?_,?_⟩)
  ·rintro u v ⟨x,h1,h2⟩
   exact Nat.le_trans (hM.pow h1) (hN _ _ h2)
  ·rintro⟨k,h1,k2,h2,h3⟩
   exact⟨k2,.succ h1 h2,h3⟩
  ·rintro⟨k,h1,h2⟩
   cases h1 with
   |succ h3 h4=>exact⟨_,h3,k,h4,h2⟩
theorem Frg.fork{l:List UInt8}{M:Cf->Cf->Prop}{d n:Nat}{c:List Sd}{r:List Sd×Nat}(h:Frg l M d n c r):Frg l (fun u v=>M u v\/v=u) d n c (r.1++ [(.fork r.2 n,d)],r.1.length):=by
 have has1:∀D,HasD D (r.1++ [(.fork r.2 n,d)]) c.length->HasD D r.1 c.length:=fun D hD k h1 h2=>by rw[hD k h1 (by simp;omega),List.getElem?_append_left h2]
 have hl:∀D,HasD D (r.1++ [(.fork r.2 n,d)]) c.length->D[r.1.length]?=some (.fork r.2 n,d):=fun D hD=>by rw[hD _ h.len (by simp)];simp
 refine⟨by simp;have:=h.len;omega,fun k hk=>by rw[List.getElem?_append_left (by have:=h.len;omega),h.pre k hk],fun D hD m v u j hv hr=>?_,fun D hD v u x j hv hx hr=>?_⟩
 ·have e:=hl D hD
  cases hr with
  |forkL h1 h2=>
   rw[e]at h1;cases h1
   obtain⟨x,m1,h3,h4,h5⟩:=h.to D (has1 D hD) _ v u j hv h2
   exact⟨x,m1,by omega,.inl h4,h5⟩
  |forkR h1 h2=>rw[e]at h1;cases h1;exact⟨u,_,Nat.le_succ _,.inr rfl,by rw[adv_refl];exact h2⟩
  |_ h1=>rw[e]at h1;cases h1
 ·rcases hx with hx|rfl
  ·obtain⟨m,hm⟩:=h.from_ D (has1 D hD) v u x j hv hx hr
   exact⟨_,.forkL (hl D hD) hm⟩
  ·obtain⟨m,hm⟩:=hr
   rw[adv_refl]at hm
   exact⟨_,.forkR (hl D hD) hm⟩
theorem frg_forks{l:List UInt8}{M:Cf->Cf->Prop}{g:Lay}(hM:Fwd M)(hg:FrgG l M g)(d n:Nat)(c:List Sd):∀t,Frg l (fun u v=>∃k,k<=t/\PowG M k u v) d n c (forksD g d n t n c)
 |0=>(frg_nil l d n c).congr (fun u v=>⟨fun h=>⟨0,Nat.le_refl _,by subst h;exact .zero _⟩,fun⟨k,h1,h2⟩=>by
   obtain rfl:k=0:=by omega
   cases h2;rfl⟩)
 |t+1=>by
  refine((Frg.seq hM ?_ (frg_forks hM hg d n c t) hg).fork).congr (fun u v=>⟨?_,?_⟩)
  ·rintro u v ⟨k,_,h⟩
   exact hM.pow h
  ·rintro(⟨k,h1,k2,h2,h3⟩|rfl)
   ·exact⟨k2+1,by omega,.succ h1 h3⟩
   ·exact⟨0,by omega,.zero _⟩
  ·rintro⟨k,h1,h2⟩
   cases h2 with
   |zero=>exact .inr rfl
   |succ h3 h4=>exact .inl ⟨_,h3,_,by omega,h4⟩
theorem frg_loop{l:List UInt8}{M:Cf->Cf->Prop}{g:Lay}(hM:Fwd M)(hg:FrgG l M g)(d n:Nat)(c:List Sd):Frg l (fun u v=>∃k,PowG M k u v) d n c (loopD g d n c):=by
 have hb:=hg d c.length (c++ [(.fork 0 n,d)])
 unfold loopD
 generalize g d c.length (c++ [(.fork 0 n,d)])=r at hb
 have hlen:=hb.len
 simp only[List.length_append,List.length_singleton]at hlen
 have hl:∀D,HasD D (r.1.set c.length (.fork r.2 n,d)) c.length->D[c.length]?=some (.fork r.2 n,d):=fun D hD=>by
  rw[hD _ (Nat.le_refl _) (by simp;omega),List.getElem?_set_self (by omega)]
 have has1:∀D,HasD D (r.1.set c.length (.fork r.2 n,d)) c.length->HasD D r.1 (c++ [((Sk.fork 0 n,d):Sd)]).length:=fun D hD k h1 h2=>by
  simp only[List.length_append,List.length_singleton]at h1
  rw[hD k (by omega) (by simpa using h2),List.getElem?_set_ne (by omega)]
 refine⟨by simp;omega,fun k hk=>?_,fun D hD m=>?_,fun D hD v u x j hv hx hr=>?_⟩
 ·show(r.1.set c.length (.fork r.2 n,d))[k]?=_
  rw[List.getElem?_set_ne (by omega),hb.pre k (by simp;omega),List.getElem?_append_left hk]
 ·induction m using Nat.strongRecOn with
  |ind m ih=>
   intro v u j hv hr
   have e:=hl D hD
   cases hr with
   |forkL h1 h2=>
    rw[e]at h1;cases h1
    obtain⟨x,m1,h3,h4,h5⟩:=hb.to D (has1 D hD) _ v u j hv h2
    obtain⟨y,m2,h6,⟨t,h7⟩,h8⟩:=ih m1 (by omega) _ x j (adv_le hv) h5
    rw[adv_adv (hM _ _ h4) (hM.pow h7)]at h8
    exact⟨y,m2,by omega,⟨t+1,.succ h4 h7⟩,h8⟩
   |forkR h1 h2=>rw[e]at h1;cases h1;exact⟨u,_,Nat.le_succ _,⟨0,.zero _⟩,by rw[adv_refl];exact h2⟩
   |_ h1=>rw[e]at h1;cases h1
 ·obtain⟨t,ht⟩:=hx
  induction ht generalizing v with
  |zero u=>
   obtain⟨m,hm⟩:=hr
   rw[adv_refl]at hm
   exact⟨_,.forkR (hl D hD) hm⟩
  |succ h1 h2 ih=>
   have h3:=ih _ (adv_le hv) (by rw[adv_adv (hM _ _ h1) (hM.pow h2)];exact hr)
   obtain⟨m,hm⟩:=hb.from_ D (has1 D hD) v _ _ j hv h1 h3
   exact⟨_,.forkL (hl D hD) hm⟩
theorem frg_bey{l:List UInt8}{M:Cf->Cf->Prop}{g:Lay}(hg:FrgG l M g)(p:Bool)(hp:p=true->∀u v,M u v->u.1<v.1):FrgG l (Adv M) (beyD p g):=by
 intro d n c
 unfold beyD
 by_cases hpt:p=true
 ·rw[if_pos hpt,adv_same (hp hpt)]
  exact hg d n c
 ·rw[if_neg hpt]
  have hb:=hg (d+1) c.length (c++ [(.gain n,d+1)])
  generalize g (d+1) c.length (c++ [(.gain n,d+1)])=r at hb
  have hlen:=hb.len
  simp only[List.length_append,List.length_singleton]at hlen
  have hl:∀D,HasD D r.1 c.length->D[c.length]?=some (.gain n,d+1):=fun D hD=>by
   rw[hD _ (Nat.le_refl _) (by omega),hb.pre c.length (by simp),List.getElem?_append_right (Nat.le_refl _)]
   simp
  have has1:∀D,HasD D r.1 c.length->HasD D r.1 (c++ [((Sk.gain n,d+1):Sd)]).length:=fun D hD k h1 h2=>by
   simp only[List.length_append,List.length_singleton]at h1
   exact hD k (by omega) h2
  refine⟨by omega,fun k hk=>by rw[hb.pre k (by simp;omega),List.getElem?_append_left hk],fun D hD m v u j hv hr=>?_,fun D hD v u x j hv hx hr=>?_⟩
  ·obtain⟨x,m1,h1,h2,h3⟩:=hb.to D (has1 D hD) m v u j (by omega) hr
   have e:=hl D hD
   cases h3 with
   |gain h4 h5 h6=>
    rw[e]at h4;cases h4
    have hlt:u.1<x.1:=by
     unfold adv at h5
     split at h5
     ·assumption
     ·omega
    refine⟨x,_,Nat.le_of_succ_le h1,⟨h2,hlt⟩,?_⟩
    unfold adv at h6 ⊢
    rw[if_pos hlt]at h6 ⊢
    exact h6
   |_ h4=>rw[e]at h4;cases h4
  ·obtain⟨m,hm⟩:=hr
   refine hb.from_ D (has1 D hD) v u x j (by omega) hx.1 ⟨_,.gain (hl D hD) (by unfold adv;rw[if_pos hx.2]) (m:=m) ?_⟩
   unfold adv at hm ⊢
   rw[if_pos hx.2]at hm ⊢
   exact hm
theorem frg_rep{l:List UInt8}{M:Cf->Cf->Prop}{g:Lay}(hM:Fwd M)(hg:FrgG l M g)(p:Bool)(hp:p=true->∀u v,M u v->u.1<v.1)(a b:Int):FrgG l (Rpt M a b) (repD g (beyD p g) a b):=by
 intro d n c
 have hb:=frg_bey hg p hp
 unfold repD
 by_cases hb1:b= -1
 ·rw[if_pos hb1]
  refine(frg_copies hM ?_ hg (n:=n) (c0:=c) (c:=(loopD (beyD p g) d n c).1) (e:=(loopD (beyD p g) d n c).2) (frg_loop Fwd.adv hb d n c) a.toNat).congr (fun u v=>⟨?_,?_⟩)
  ·rintro u v ⟨k,h⟩
   exact Fwd.adv.pow h
  ·rintro⟨x,h1,t,h2⟩
   exact⟨x,h1,t,.inl hb1,h2⟩
  ·rintro⟨x,h1,t,_,h2⟩
   exact⟨x,h1,t,h2⟩
 ·rw[if_neg hb1]
  refine(frg_copies hM ?_ hg (n:=n) (c0:=c) (c:=(forksD (beyD p g) d n (b-a).toNat n c).1) (e:=(forksD (beyD p g) d n (b-a).toNat n c).2) (frg_forks Fwd.adv hb d n c _) a.toNat).congr (fun u v=>⟨?_,?_⟩)
  ·rintro u v ⟨k,_,h⟩
   exact Fwd.adv.pow h
  ·rintro⟨x,h1,t,h2,h3⟩
   exact⟨x,h1,t,.inr h2,h3⟩
  ·rintro⟨x,h1,t,h2,h3⟩
   rcases h2 with h2|h2
   ·exact absurd h2 hb1
   ·exact⟨x,h1,t,h2,h3⟩
theorem rpt_star{R:Cf->Cf->Prop}(u v:Cf):Rpt R 0 (-1) u v↔∃t,PowG (Adv R) t u v:=by
 constructor
 ·rintro⟨x,h1,t,_,h2⟩
  cases h1
  exact⟨t,h2⟩
 ·rintro⟨t,h⟩
  exact⟨u,.zero _,t,.inl rfl,h⟩
theorem pow_pow{R:Cf->Cf->Prop}:∀ {t:Nat} {u v:Cf},PowG (Adv (fun a b=>∃t,PowG R t a b)) t u v->∃t,PowG R t u v
 |_,u,_,.zero _=>⟨0,.zero _⟩
 |_,_,_,.succ ⟨⟨m,h1⟩,_⟩ h2=>by
  obtain⟨t,h3⟩:=pow_pow h2
  exact⟨m+t,h1.add h3⟩
theorem star_starG{l:List UInt8}{rf:List Nat}{a b:Int}{x:Tr}(h:(a=0/\b= -1)/\starT x=true)(u v:Cf):Mg l rf x u v↔Rpt (fun u v=>Mg l rf x u v) a b u v:=by
 obtain⟨⟨rfl,rfl⟩,hx⟩:=h
 cases x with
 |rep c d y=>
  simp[starT]at hx
  obtain⟨rfl,rfl⟩:=hx
  have e:(fun u v=>Mg l rf (.rep 0 (-1) y) u v)=fun u v=>∃t,PowG (Adv (fun u v=>Mg l rf y u v)) t u v:=by
   funext u v
   simp only[Mg]
   exact propext (rpt_star u v)
  have e2:Mg l rf (.rep 0 (-1) y) u v=∃t,PowG (Adv (fun u v=>Mg l rf y u v)) t u v:=congrFun (congrFun e u) v
  rw[rpt_star,e,e2]
  constructor
  ·rintro⟨t,h⟩
   cases t with
   |zero=>cases h;exact⟨0,.zero _⟩
   |succ t=>exact⟨1,.succ ⟨⟨_,h⟩,pow_lt Fwd.adv (fun _ _ k=>k.2) (by omega) h⟩ (.zero _)⟩
  ·rintro⟨t,h⟩
   exact pow_pow h
 |_=>simp[starT]at hx
theorem frg_grp{l:List UInt8}{M:Cf->Cf->Prop}{g:Lay}(s:Nat)(hg:FrgG l M g):FrgG l (fun u v=>∃x q,M (u.1,setM u.2 s (.op u.1)) x/\x.2 s= .op q/\v=(x.1,setM x.2 s (.sp q x.1)))
  (fun d n c=>((g d c.length (c++ [(.shut s n,d)])).1++ [(.opn s (g d c.length (c++ [(.shut s n,d)])).2,d)],(g d c.length (c++ [(.shut s n,d)])).1.length)):=by
 intro d n c
 have hb:=hg d c.length (c++ [(.shut s n,d)])
 simp only
 generalize g d c.length (c++ [(.shut s n,d)])=r at hb
 have hlen:=hb.len
 simp only[List.length_append,List.length_singleton]at hlen
 have hl:∀D,HasD D (r.1++ [(.opn s r.2,d)]) c.length->D[c.length]?=some (.shut s n,d):=fun D hD=>by
  rw[hD _ (Nat.le_refl _) (by simp;omega),List.getElem?_append_left (by omega),hb.pre c.length (by simp),List.getElem?_append_right (Nat.le_refl _)]
  simp
 have hl2:∀D,HasD D (r.1++ [(.opn s r.2,d)]) c.length->D[r.1.length]?=some (.opn s r.2,d):=fun D hD=>by rw[hD _ (by omega) (by simp)];simp
 have has1:∀D,HasD D (r.1++ [(.opn s r.2,d)]) c.length->HasD D r.1 (c++ [((Sk.shut s n,d):Sd)]).length:=fun D hD k h1 h2=>by
  simp only[List.length_append,List.length_singleton]at h1
  rw[hD k (by omega) (by simp;omega),List.getElem?_append_left h2]
 refine⟨by simp;omega,fun k hk=>by rw[List.getElem?_append_left (by omega),hb.pre k (by simp;omega),List.getElem?_append_left hk],fun D hD m v u j hv hr=>?_,fun D hD v u x j hv hx hr=>?_⟩
 ·have e:=hl2 D hD
  cases hr with
  |opn h1 h2=>
   rw[e]at h1;cases h1
   obtain⟨x,m1,h3,h4,h5⟩:=hb.to D (has1 D hD) _ v _ j hv h2
   have e2:=hl D hD
   cases h5 with
   |shut h6 h7 h8=>
    rw[e2]at h6;cases h6
    exact⟨_,_,by omega,⟨x,_,h4,h7,rfl⟩,h8⟩
   |_ h6=>rw[e2]at h6;cases h6
  |_ h1=>rw[e]at h1;cases h1
 ·obtain⟨y,q,h1,h2,rfl⟩:=hx
  obtain⟨m,hm⟩:=hr
  obtain⟨m2,h3⟩:=hb.from_ D (has1 D hD) v (u.1,setM u.2 s (.op u.1)) y j hv h1 ⟨_,.shut (hl D hD) h2 (m:=m) hm⟩
  exact⟨_,.opn (hl2 D hD) h3⟩
mutual
theorem frg_item (l:List UInt8) (rf:List Nat) (hrf:rf≠ []):∀x:Tr,FrgG l (fun u v=>Mg l rf x u v) (fun d n c=>itemD rf x d n c)
 | .one f=>by intro d n c;simp only[Mg,itemD];exact frg_one l f d n c
 | .beg=>by intro d n c;simp only[Mg,itemD];exact frg_beg l d n c
 | .fin=>by intro d n c;simp only[Mg,itemD];exact frg_fin l d n c
 | .back k=>by intro d n c;simp only[Mg,itemD];exact frg_bck l (rf.idxOf k) d n c
 | .grp k r=>by
  intro d n c
  simp only[Mg,itemD]
  by_cases h:k∈rf
  ·simp only[if_pos h]
   exact frg_grp (rf.idxOf k) (frg_row l rf hrf r) d n c
  ·simp only[if_neg h]
   exact frg_row l rf hrf r d n c
 | .rep a b x=>by
  intro d n c
  simp only[Mg,itemD]
  split
  ·rename_i h
   exact(frg_item l rf hrf x d n c).congr (star_starG h)
  ·refine frg_rep (mg_fwd l rf x) (frg_item l rf hrf x) _ (fun hp=>?_) a b d n c
   have he:rf.isEmpty=false:=by cases rf with
    |nil=>exact absurd rfl hrf
    |cons _ _=>rfl
   rw[he,Bool.false_or]at hp
   exact hasB_adv l rf x hp
theorem frg_row (l:List UInt8) (rf:List Nat) (hrf:rf≠ []):∀r:List Tr,FrgG l (fun u v=>MgRow l rf r u v) (fun d n c=>rowD rf r d n c)
 | []=>by intro d n c;simp only[MgRow,rowD];exact frg_nil l d n c
 |x::r=>by intro d n c;simp only[MgRow,rowD];exact Frg.seq (mg_fwd l rf x) (mg_row_fwd l rf r) (frg_row l rf hrf r d n c) (frg_item l rf hrf x)
end
theorem buildD_ok(l:List UInt8)(rf:List Nat)(hrf:rf≠ [])(r:List Tr)(u:Cf)(j:Nat):(∃m,RunG l (buildD rf r).1 m (buildD rf r).2 0 u j)↔∃μ,MgRow l rf r u (j,μ):=by
 have h:=frg_row l rf hrf r 0 0 [(.done,0)]
 have hD:HasD (buildD rf r).1 (rowD rf r 0 0 [(.done,0)]).1 ([((Sk.done,0):Sd)]).length:=fun k _ _=>rfl
 have h0:(buildD rf r).1[0]?=some (.done,0):=(h.pre 0 (by simp)).trans rfl
 constructor
 ·rintro⟨m,hm⟩
  obtain⟨x,m',_,h1,h2⟩:=h.to _ hD m 0 u j (Nat.le_refl _) hm
  cases h2 with
  |done _=>exact⟨x.2,h1⟩
  |_ h3=>rw[h0]at h3;cases h3
 ·rintro⟨μ,hm⟩
  exact h.from_ _ hD 0 u (j,μ) j (Nat.le_refl _) hm ⟨0,.done h0⟩
end Go.Proofs.YtldiemjlpnachaaGreatDoor
namespace Go.Proofs.YtldiemjlpnachaaGreatDoor
abbrev Hd:=Nat×Nat
def getH(h:Hd)(s:Nat):Nat:=if s=0 then h.1 else h.2
def setH(h:Hd)(s v:Nat):Hd:=if s=0 then(v,h.2)else(h.1,v)
structure Nd where
 h:Hd
 p:Nat
 v:Nat
 i:Nat
structure Prt where
 num:Nat->Nat->Nat
 sz:Nat->Nat
 at_:Nat->Nat->Bool
 count:Nat
structure PrtOk(l:List UInt8)(P:Prt):Prop where
 lt:∀a b,a<=b->b<=l.length->P.num a b<P.count
 size:∀a b,a<=b->b<=l.length->P.sz (P.num a b)=b-a
 stand:∀a b i,a<=b->b<=l.length->(P.at_ (P.num a b) i=true↔Stands l a b i)
inductive Ed (l:List UInt8) (D:List Sd) (P:Prt):Nd->Nd->Prop
 |one {h:Hd} {p v i d n:Nat} {f:Nat->Bool}:D[p]?=some (.one f n,d)->i<l.length->f (ch l i)=true->Ed l D P ⟨h,p,v,i⟩ ⟨h,n,d,i+1⟩
 |beg {h:Hd} {p v i d n:Nat}:D[p]?=some (.beg n,d)->i=0->Ed l D P ⟨h,p,v,i⟩ ⟨h,n,v,i⟩
 |fin {h:Hd} {p v i d n:Nat}:D[p]?=some (.fin n,d)->i=l.length->Ed l D P ⟨h,p,v,i⟩ ⟨h,n,v,i⟩
 |forkL {h:Hd} {p v i d n o:Nat}:D[p]?=some (.fork n o,d)->Ed l D P ⟨h,p,v,i⟩ ⟨h,n,v,i⟩
 |forkR {h:Hd} {p v i d n o:Nat}:D[p]?=some (.fork n o,d)->Ed l D P ⟨h,p,v,i⟩ ⟨h,o,v,i⟩
 |opn {h:Hd} {p v i d s n:Nat}:D[p]?=some (.opn s n,d)->Ed l D P ⟨h,p,v,i⟩ ⟨setH h s (1+i),n,v,i⟩
 |shut {h:Hd} {p v i d s n a:Nat}:D[p]?=some (.shut s n,d)->getH h s=1+a->a<=24->Ed l D P ⟨h,p,v,i⟩ ⟨setH h s (26+P.num a i),n,v,i⟩
 |bck {h:Hd} {p v i d s n k:Nat}:D[p]?=some (.bck s n,d)->getH h s=26+k->P.at_ k i=true->Ed l D P ⟨h,p,v,i⟩ ⟨h,n,if 0<P.sz k then d else v,i+P.sz k⟩
 |gain {h:Hd} {p v i d n:Nat}:D[p]?=some (.gain n,d)->v=d->Ed l D P ⟨h,p,v,i⟩ ⟨h,n,v-1,i⟩
inductive Path (l:List UInt8) (D:List Sd) (P:Prt):Nd->Nd->Prop
 |refl (x:Nd):Path l D P x x
 |head {x y z:Nd}:Ed l D P x y->Path l D P y z->Path l D P x z
theorem Path.tail{l:List UInt8}{D:List Sd}{P:Prt}{x y z:Nd}(h:Path l D P x y)(e:Ed l D P y z):Path l D P x z:=by
 induction h with
 |refl x=>exact .head e (.refl _)
 |head h1 _ ih=>exact .head h1 (ih e)
def qm(P:Prt):Mark->Nat
 | .no=>0
 | .op p=>1+p
 | .sp a b=>26+P.num a b
def qH(P:Prt)(μ:Mks):Hd:=(qm P (μ 0),qm P (μ 1))
theorem getH_q(P:Prt)(μ:Mks){s:Nat}(hs:s<2):getH (qH P μ) s=qm P (μ s):=by
 unfold getH qH
 rcases(show s=0\/s=1 by omega)with rfl|rfl<;>simp
theorem setH_q(P:Prt)(μ:Mks){s:Nat}(hs:s<2)(m:Mark):setH (qH P μ) s (qm P m)=qH P (setM μ s m):=by
 unfold setH qH setM
 rcases(show s=0\/s=1 by omega)with rfl|rfl<;>simp
def MkOk(i:Nat)(μ:Mks):Prop:=∀s,match μ s with
 | .no=>True
 | .op p=>p<=i
 | .sp a b=>a<=b/\b<=i
theorem MkOk.mono{i j:Nat}{μ:Mks}(h:MkOk i μ)(hij:i<=j):MkOk j μ:=by
 intro s
 have:=h s
 cases hm:μ s with
 |no=>trivial
 |op p=>rw[hm]at this;simp only at this ⊢;omega
 |sp a b=>rw[hm]at this;simp only at this ⊢;omega
theorem MkOk.set{i:Nat}{μ:Mks}(h:MkOk i μ)(s:Nat)(m:Mark)(hm:match m with| .no=>True| .op p=>p<=i| .sp a b=>a<=b/\b<=i):MkOk i (setM μ s m):=by
 intro t
 unfold setM
 by_cases e:t=s
 ·rw[if_pos e];exact hm
 ·rw[if_neg e];exact h t
def SlotsLt(D:List Sd)(k:Nat):Prop:=∀(p:Nat) (x:Sd),D[p]?=some x->match x.1 with
 | .opn s _=>s<k
 | .shut s _=>s<k
 | .bck s _=>s<k
 |_=>True
theorem run_path{l:List UInt8}{D:List Sd}{P:Prt}(hP:PrtOk l P)(hl:l.length<=24)(hS:SlotsLt D 2){m p v j:Nat}{u:Cf}(h:RunG l D m p v u j):u.1<=l.length->MkOk u.1 u.2->∃hh p' v' d,D[p']?=some (.done,d)/\Path l D P ⟨qH P u.2,p,v,u.1⟩ ⟨hh,p',v',j⟩:=by
 induction h with
 |done h1=>intro _ _;exact⟨_,_,_,_,h1,.refl _⟩
 |one h1 h2 h3 _ ih=>
  intro hu hm
  obtain⟨a,b,c,d,e1,e2⟩:=ih (by simp;omega) (hm.mono (by simp))
  exact⟨a,b,c,d,e1,.head (.one h1 h2 h3) e2⟩
 |beg h1 h2 _ ih=>
  intro hu hm
  obtain⟨a,b,c,d,e1,e2⟩:=ih hu hm
  exact⟨a,b,c,d,e1,.head (.beg h1 h2) e2⟩
 |fin h1 h2 _ ih=>
  intro hu hm
  obtain⟨a,b,c,d,e1,e2⟩:=ih hu hm
  exact⟨a,b,c,d,e1,.head (.fin h1 h2) e2⟩
 |forkL h1 _ ih=>
  intro hu hm
  obtain⟨a,b,c,d,e1,e2⟩:=ih hu hm
  exact⟨a,b,c,d,e1,.head (.forkL h1) e2⟩
 |forkR h1 _ ih=>
  intro hu hm
  obtain⟨a,b,c,d,e1,e2⟩:=ih hu hm
  exact⟨a,b,c,d,e1,.head (.forkR h1) e2⟩
 | @opn m p v d s n j u h1 _ ih=>
  intro hu hm
  have hs:s<2:=hS _ _ h1
  obtain⟨a,b,c,d,e1,e2⟩:=ih hu (hm.set s (.op u.1) (Nat.le_refl _))
  have e:Ed l D P ⟨qH P u.2,p,v,u.1⟩ ⟨setH (qH P u.2) s (1+u.1),n,v,u.1⟩:= .opn h1
  rw[show setH (qH P u.2) s (1+u.1)=qH P (setM u.2 s (.op u.1))from setH_q P u.2 hs (.op u.1)]at e
  exact⟨a,b,c,d,e1,.head e e2⟩
 | @shut m p v d s n j q u h1 h2 _ ih=>
  intro hu hm
  have hs:s<2:=hS _ _ h1
  have hq:=hm s
  rw[h2]at hq
  simp only at hq
  obtain⟨a,b,c,d,e1,e2⟩:=ih hu (hm.set s (.sp q u.1) ⟨hq,Nat.le_refl _⟩)
  have e:Ed l D P ⟨qH P u.2,p,v,u.1⟩ ⟨setH (qH P u.2) s (26+P.num q u.1),n,v,u.1⟩:= .shut h1 (by rw[getH_q P u.2 hs,h2];rfl) (by omega)
  rw[show setH (qH P u.2) s (26+P.num q u.1)=qH P (setM u.2 s (.sp q u.1))from setH_q P u.2 hs (.sp q u.1)]at e
  exact⟨a,b,c,d,e1,.head e e2⟩
 | @bck m p v d s n j x y u h1 h2 h3 _ ih=>
  intro hu hm
  have hs:s<2:=hS _ _ h1
  have hq:=hm s
  rw[h2]at hq
  simp only at hq
  obtain⟨a,b,c,d',e1,e2⟩:=ih (by have:=h3.1;simp;omega) (hm.mono (by simp))
  have e:Ed l D P ⟨qH P u.2,p,v,u.1⟩ ⟨qH P u.2,n,if 0<P.sz (P.num x y)then d else v,u.1+P.sz (P.num x y)⟩:= .bck h1 (by rw[getH_q P u.2 hs,h2];rfl) ((hP.stand x y u.1 hq.1 (by omega)).2 h3)
  rw[hP.size x y hq.1 (by omega)]at e
  have ec:(if 0<y-x then d else v)=if x<y then d else v:=by
   by_cases hh:x<y
   ·rw[if_pos hh,if_pos (by omega)]
   ·rw[if_neg hh,if_neg (by omega)]
  rw[ec]at e
  exact⟨a,b,c,d',e1,.head e e2⟩
 |gain h1 h2 _ ih=>
  intro hu hm
  obtain⟨a,b,c,d,e1,e2⟩:=ih hu hm
  exact⟨a,b,c,d,e1,.head (.gain h1 h2) e2⟩
theorem qm_op{P:Prt}{m:Mark}{a:Nat}(h:qm P m=1+a)(ha:a<=24):m= .op a:=by
 cases m with
 |no=>simp[qm]at h;omega
 |op p=>simp[qm]at h;rw[h]
 |sp x y=>simp[qm]at h;omega
theorem qm_sp{P:Prt}{m:Mark}{i k:Nat}(hi:i<=24)(hm:match m with| .no=>True| .op p=>p<=i| .sp a b=>a<=b/\b<=i)(h:qm P m=26+k):∃a b,m= .sp a b/\a<=b/\b<=i/\P.num a b=k:=by
 cases m with
 |no=>simp[qm]at h;omega
 |op p=>simp[qm]at h;simp only at hm;omega
 |sp x y=>simp[qm]at h;exact⟨x,y,rfl,hm.1,hm.2,by omega⟩
theorem path_run{l:List UInt8}{D:List Sd}{P:Prt}(hP:PrtOk l P)(hl:l.length<=24)(hS:SlotsLt D 2){x y:Nd}(h:Path l D P x y):∀(u:Cf),x.h=qH P u.2->x.i=u.1->u.1<=l.length->MkOk u.1 u.2->(∃d,D[y.p]?=some (.done,d))->∃m,RunG l D m x.p x.v u y.i:=by
 induction h with
 |refl x=>
  rintro u _ hi _ _ ⟨d,hd⟩
  exact⟨0,by rw[hi];exact .done hd⟩
 |head e _ ih=>
  intro u hh hi hu hm hd
  cases e with
  |one h1 h2 h3=>
   simp only at hh hi
   subst hi
   obtain⟨m,hr⟩:=ih (u.1+1,u.2) hh rfl (by simp;omega) (hm.mono (by simp)) hd
   exact⟨_,.one h1 h2 h3 hr⟩
  |beg h1 h2=>
   simp only at hh hi
   subst hi
   obtain⟨m,hr⟩:=ih u hh rfl hu hm hd
   exact⟨_,.beg h1 h2 hr⟩
  |fin h1 h2=>
   simp only at hh hi
   subst hi
   obtain⟨m,hr⟩:=ih u hh rfl hu hm hd
   exact⟨_,.fin h1 h2 hr⟩
  |forkL h1=>
   simp only at hh hi
   subst hi
   obtain⟨m,hr⟩:=ih u hh rfl hu hm hd
   exact⟨_,.forkL h1 hr⟩
  |forkR h1=>
   simp only at hh hi
   subst hi
   obtain⟨m,hr⟩:=ih u hh rfl hu hm hd
   exact⟨_,.forkR h1 hr⟩
  | @opn h p v i d s n h1=>
   simp only at hh hi
   subst hi hh
   have hs:s<2:=hS _ _ h1
   obtain⟨m,hr⟩:=ih (u.1,setM u.2 s (.op u.1)) (setH_q P u.2 hs (.op u.1)) rfl hu (hm.set s (.op u.1) (Nat.le_refl _)) hd
   exact⟨_,.opn h1 hr⟩
  | @shut h p v i d s n a h1 h2 ha=>
   simp only at hh hi
   subst hi hh
   have hs:s<2:=hS _ _ h1
   rw[getH_q P u.2 hs]at h2
   have hq:=qm_op h2 ha
   have hq2:=hm s
   rw[hq]at hq2
   simp only at hq2
   obtain⟨m,hr⟩:=ih (u.1,setM u.2 s (.sp a u.1)) (setH_q P u.2 hs (.sp a u.1)) rfl hu (hm.set s (.sp a u.1) ⟨hq2,Nat.le_refl _⟩) hd
   exact⟨_,.shut h1 hq hr⟩
  | @bck h p v i d s n k h1 h2 h3=>
   simp only at hh hi
   subst hi hh
   have hs:s<2:=hS _ _ h1
   rw[getH_q P u.2 hs]at h2
   obtain⟨a,b,hq,hab,hb,hk⟩:=qm_sp (by omega) (hm s) h2
   have h4:Stands l a b u.1:=(hP.stand a b u.1 hab (by omega)).1 (by rw[hk];exact h3)
   have hz:P.sz k=b-a:=by rw[<-hk];exact hP.size a b hab (by omega)
   rw[hz]at ih
   obtain⟨m,hr⟩:=ih (u.1+(b-a),u.2) rfl rfl (by have:=h4.1;simp;omega) (hm.mono (by simp)) hd
   have ec:(if 0<b-a then d else v)=if a<b then d else v:=by
    by_cases hh:a<b
    ·rw[if_pos hh,if_pos (by omega)]
    ·rw[if_neg hh,if_neg (by omega)]
   simp only[ec]at hr
   exact⟨_,.bck h1 hq h4 hr⟩
  |gain h1 h2=>
   simp only at hh hi
   subst hi
   obtain⟨m,hr⟩:=ih u hh rfl hu hm hd
   exact⟨_,.gain h1 h2 hr⟩
def updB(o:Nat->Bool)(s:Nat)(b:Bool):Nat->Bool:=fun t=>if t=s then b else o t
theorem updB_back{o:Nat->Bool}{s:Nat}(h:o s=false):updB (updB o s true) s false=o:=by
 funext t
 unfold updB
 by_cases e:t=s
 ·rw[if_pos e,e,h]
 ·rw[if_neg e,if_neg e]
def Tg(D:List Sd)(G:Nat->Nat->Bool)(n d:Nat)(o:Nat->Bool):Prop:=∃y e,D[n]?=some (y,e)/\d<=e/\G n=o
def StOk(D:List Sd)(k:Nat)(G:Nat->Nat->Bool)(p:Nat):Prop:=∀x d,D[p]?=some (x,d)->match x with
 | .done=>True
 | .one _ n=>Tg D G n d (G p)
 | .beg n=>Tg D G n d (G p)
 | .fin n=>Tg D G n d (G p)
 | .fork n o=>Tg D G n d (G p)/\Tg D G o d (G p)
 | .opn s n=>s<k/\Tg D G n d (updB (G p) s true)
 | .shut s n=>s<k/\G p s=true/\Tg D G n d (updB (G p) s false)
 | .bck s n=>s<k/\Tg D G n d (G p)
 | .gain n=>1<=d/\Tg D G n (d-1) (G p)
def Deps(D D':List Sd):Prop:=∀(q:Nat) y e,D[q]?=some (y,e)->∃y',D'[q]?=some (y',e)
theorem Tg.ext{D D':List Sd}{G G':Nat->Nat->Bool}{n d:Nat}{o:Nat->Bool}(h:Tg D G n d o)(hD:Deps D D')(hG:∀q,q<D.length->G' q=G q):Tg D' G' n d o:=by
 obtain⟨y,e,h1,h2,h3⟩:=h
 obtain⟨y',h4⟩:=hD n y e h1
 exact⟨y',e,h4,h2,by rw[hG n (List.getElem?_eq_some_iff.1 h1).1];exact h3⟩
theorem StOk.ext{D D':List Sd}{k:Nat}{G G':Nat->Nat->Bool}{p:Nat}(h:StOk D k G p)(hp:p<D.length)(he:D'[p]?=D[p]?)(hD:Deps D D')(hG:∀q,q<D.length->G' q=G q):StOk D' k G' p:=by
 intro x d hx
 rw[he]at hx
 have:=h x d hx
 have eg:=hG p hp
 cases x with
 |done=>trivial
 |one f n=>simp only at this ⊢;rw[eg];exact this.ext hD hG
 |beg n=>simp only at this ⊢;rw[eg];exact this.ext hD hG
 |fin n=>simp only at this ⊢;rw[eg];exact this.ext hD hG
 |fork n o=>simp only at this ⊢;rw[eg];exact⟨this.1.ext hD hG,this.2.ext hD hG⟩
 |opn s n=>simp only at this ⊢;rw[eg];exact⟨this.1,this.2.ext hD hG⟩
 |shut s n=>simp only at this ⊢;rw[eg];exact⟨this.1,this.2.1,this.2.2.ext hD hG⟩
 |bck s n=>simp only at this ⊢;rw[eg];exact⟨this.1,this.2.ext hD hG⟩
 |gain n=>simp only at this ⊢;rw[eg];exact⟨this.1,this.2.ext hD hG⟩
theorem deps_pre{D D':List Sd}(h:∀k,k<D.length->D'[k]?=D[k]?):Deps D D':=fun q y _ hq=>⟨y,(h q (List.getElem?_eq_some_iff.1 hq).1).trans hq⟩
def TyR(k:Nat)(o:Nat->Bool)(G:Nat->Nat->Bool)(d:Nat)(c:List Sd)(r:List Sd×Nat):Prop:=∃G':Nat->Nat->Bool,(∀p,p<c.length->G' p=G p)/\(∀p,c.length<=p->p<r.1.length->StOk r.1 k G' p)/\Tg r.1 G' r.2 d o
def TyG(k:Nat)(o:Nat->Bool)(g:Lay):Prop:=∀d n c G,Tg c G n d o->TyR k o G d c (g d n c)
theorem ty_nil{k d n:Nat}{o:Nat->Bool}{c:List Sd}{G:Nat->Nat->Bool}(h:Tg c G n d o):TyR k o G d c (c,n):=⟨G,fun _ _=>rfl,fun p h1 h2=>absurd h2 (by simp;omega),h⟩
theorem ty_put{k d:Nat}{o2:Nat->Bool}{c:List Sd}{G:Nat->Nat->Bool}(x:Sk)(h:∀G',(∀p,p<c.length->G' p=G p)->G' c.length=o2->StOk (c++ [(x,d)]) k G' c.length):∃G':Nat->Nat->Bool,(∀p,p<c.length->G' p=G p)/\(∀p,c.length<=p->p<(c++ [((x,d):Sd)]).length->StOk (c++ [(x,d)]) k G' p)/\Tg (c++ [(x,d)]) G' c.length d o2:=by
 refine⟨fun p=>if p<c.length then G p else o2,fun p hp=>by simp[hp],fun p h1 h2=>?_,⟨x,d,by simp,Nat.le_refl _,by simp⟩⟩
 obtain rfl:p=c.length:=by simp at h2;omega
 exact h _ (fun p hp=>by simp[hp]) (by simp)
theorem tg_app{d n:Nat}{o:Nat->Bool}{c:List Sd}{G G':Nat->Nat->Bool}(h:Tg c G n d o)(x:Sd)(hG:∀p,p<c.length->G' p=G p):Tg (c++ [x]) G' n d o:=h.ext (deps_pre (fun _ hk=>List.getElem?_append_left hk)) hG
theorem stok_last{k d:Nat}{c:List Sd}{G:Nat->Nat->Bool}{x:Sk}(h:match x with
 | .done=>True
 | .one _ n=>Tg (c++ [(x,d)]) G n d (G c.length)
 | .beg n=>Tg (c++ [(x,d)]) G n d (G c.length)
 | .fin n=>Tg (c++ [(x,d)]) G n d (G c.length)
 | .fork n o=>Tg (c++ [(x,d)]) G n d (G c.length)/\Tg (c++ [(x,d)]) G o d (G c.length)
 | .opn s n=>s<k/\Tg (c++ [(x,d)]) G n d (updB (G c.length) s true)
 | .shut s n=>s<k/\G c.length s=true/\Tg (c++ [(x,d)]) G n d (updB (G c.length) s false)
 | .bck s n=>s<k/\Tg (c++ [(x,d)]) G n d (G c.length)
 | .gain n=>1<=d/\Tg (c++ [(x,d)]) G n (d-1) (G c.length)):StOk (c++ [(x,d)]) k G c.length:=by
 intro y e hy
 simp at hy
 obtain⟨rfl,rfl⟩:=hy
 exact h
theorem TyR.seq{k:Nat}{o:Nat->Bool}{G:Nat->Nat->Bool}{d:Nat}{c:List Sd}{r:List Sd×Nat}{g:Lay}(h:TyR k o G d c r)(hlen:c.length<=r.1.length)(hg:TyG k o g)(hgd:Gd g):TyR k o G d c (g d r.2 r.1):=by
 obtain⟨G1,a1,a2,a3⟩:=h
 obtain⟨G2,b1,b2,b3⟩:=hg d r.2 r.1 G1 a3
 obtain⟨l1,l2⟩:=hgd d r.2 r.1
 refine⟨G2,fun p hp=>(b1 p (by omega)).trans (a1 p hp),fun p h1 h2=>?_,b3⟩
 rcases Nat.lt_or_ge p r.1.length with hp|hp
 ·exact(a2 p h1 hp).ext hp (l2 p hp) (deps_pre l2) b1
 ·exact b2 p hp h2
theorem ty_copies{k:Nat}{o:Nat->Bool}{g:Lay}(hg:TyG k o g)(hgd:Gd g){G:Nat->Nat->Bool}{d:Nat}{c0 c:List Sd}{e:Nat}(h:TyR k o G d c0 (c,e))(hlen:c0.length<=c.length):∀t,TyR k o G d c0 (copiesD g d t e c)
 |0=>h
 |t+1=>by
  have l1:=(gd_copies hgd d t e c).1
  rw[copiesD]
  exact(ty_copies hg hgd h hlen t).seq (by omega) hg hgd
theorem ty_forks{k:Nat}{o:Nat->Bool}{g:Lay}(hg:TyG k o g)(hgd:Gd g){G:Nat->Nat->Bool}{d n:Nat}{c:List Sd}(hn:Tg c G n d o):∀t,TyR k o G d c (forksD g d n t n c)
 |0=>ty_nil hn
 |t+1=>by
  obtain⟨l1,l2⟩:=gd_forks hgd d n t n c
  have h:=(ty_forks hg hgd hn t).seq l1 hg hgd
  obtain⟨m1,m2⟩:=hgd d (forksD g d n t n c).2 (forksD g d n t n c).1
  rw[forksD]
  generalize g d (forksD g d n t n c).2 (forksD g d n t n c).1=r at*
  obtain⟨G1,a1,a2,a3⟩:=h
  have hpre:∀q,q<c.length->r.1[q]?=c[q]?:=fun q hq=>(m2 q (by omega)).trans (l2 q hq)
  have hn1:Tg r.1 G1 n d o:=hn.ext (deps_pre hpre) a1
  obtain⟨G2,b1,b2,b3⟩:=ty_put (k:=k) (d:=d) (o2:=o) (c:=r.1) (G:=G1) (.fork r.2 n) (fun G' hG' ho=>stok_last (by simp only;rw[ho];exact⟨tg_app a3 _ hG',tg_app hn1 _ hG'⟩))
  refine⟨G2,fun p hp=>(b1 p (by omega)).trans (a1 p hp),fun p h1 h2=>?_,b3⟩
  rcases Nat.lt_or_ge p r.1.length with hp|hp
  ·exact(a2 p h1 hp).ext hp (List.getElem?_append_left hp) (deps_pre (fun q hq=>List.getElem?_append_left hq)) b1
  ·exact b2 p hp h2
theorem ty_loop{k:Nat}{o:Nat->Bool}{g:Lay}(hg:TyG k o g)(hgd:Gd g){G:Nat->Nat->Bool}{d n:Nat}{c:List Sd}(hn:Tg c G n d o):TyR k o G d c (loopD g d n c):=by
 unfold loopD
 have hT:Tg (c++ [((Sk.fork 0 n,d):Sd)]) (fun p=>if p<c.length then G p else o) c.length d o:=⟨_,d,by simp;rfl,Nat.le_refl _,by simp⟩
 obtain⟨G1,a1,a2,a3⟩:=hg d c.length (c++ [(.fork 0 n,d)]) _ hT
 obtain⟨l1,l2⟩:=hgd d c.length (c++ [(.fork 0 n,d)])
 generalize g d c.length (c++ [(.fork 0 n,d)])=r at*
 simp only[List.length_append,List.length_singleton]at l1 l2 a1 a2
 have hat:r.1[c.length]?=some (.fork 0 n,d):=(l2 c.length (by omega)).trans (by simp)
 have hdep:Deps r.1 (r.1.set c.length (.fork r.2 n,d)):=by
  intro q y e hq
  by_cases h:c.length=q
  ·subst h
   rw[hat]at hq
   cases hq
   exact⟨_,List.getElem?_set_self (by omega)⟩
  ·exact⟨y,by rw[List.getElem?_set_ne h];exact hq⟩
 have hG1:∀p,p<c.length->G1 p=G p:=fun p hp=>(a1 p (by omega)).trans (by simp[hp])
 have hGc:G1 c.length=o:=(a1 c.length (by omega)).trans (by simp)
 have hnr:Tg r.1 G1 n d o:=hn.ext (deps_pre (fun q hq=>(l2 q (by omega)).trans (List.getElem?_append_left hq))) hG1
 refine⟨G1,hG1,fun p h1 h2=>?_,⟨_,d,List.getElem?_set_self (by omega),Nat.le_refl _,hGc⟩⟩
 simp only[List.length_set]at h2
 by_cases h:c.length=p
 ·subst h
  intro x e hx
  simp only at hx
  rw[List.getElem?_set_self (by omega)]at hx
  cases hx
  simp only
  rw[hGc]
  exact⟨a3.ext hdep (fun _ _=>rfl),hnr.ext hdep (fun _ _=>rfl)⟩
 ·exact(a2 p (by omega) h2).ext h2 (List.getElem?_set_ne h) hdep (fun _ _=>rfl)
theorem ty_bey{k:Nat}{o:Nat->Bool}{g:Lay}(hg:TyG k o g)(hgd:Gd g)(p:Bool):TyG k o (beyD p g):=by
 intro d n c G hn
 unfold beyD
 split
 ·exact hg d n c G hn
 ·obtain⟨G0,z1,z2,z3⟩:=ty_put (k:=k) (d:=d+1) (o2:=o) (c:=c) (G:=G) (.gain n) (fun G' hG' ho=>stok_last (by simp only;rw[ho];exact⟨by omega,tg_app hn _ hG'⟩))
  obtain⟨G1,a1,a2,a3⟩:=hg (d+1) c.length (c++ [(.gain n,d+1)]) G0 z3
  obtain⟨l1,l2⟩:=hgd (d+1) c.length (c++ [(.gain n,d+1)])
  obtain⟨y,e,e1,e2,e3⟩:=a3
  simp only[List.length_append,List.length_singleton]at l1 l2 a1 a2 z2
  refine⟨G1,fun q hq=>(a1 q (by omega)).trans (z1 q hq),fun q h1 h2=>?_,⟨y,e,e1,by omega,e3⟩⟩
  rcases Nat.lt_or_ge q (c.length+1)with hq|hq
  ·exact(z2 q h1 hq).ext (by simp;omega) (l2 q hq) (deps_pre (by simpa using l2)) (by simpa using a1)
  ·exact a2 q hq h2
theorem ty_rep{k:Nat}{o:Nat->Bool}{g:Lay}(hg:TyG k o g)(hgd:Gd g)(p:Bool)(a b:Int):TyG k o (repD g (beyD p g) a b):=by
 intro d n c G hn
 have hb:=ty_bey hg hgd p
 have hbd:=gd_bey hgd p
 unfold repD
 split
 ·have l1:=(gd_loop hbd d n c).1
  exact ty_copies hg hgd (ty_loop hb hbd hn) (Nat.le_of_lt l1) _
 ·have l1:=(gd_forks hbd d n (b-a).toNat n c).1
  exact ty_copies hg hgd (ty_forks hb hbd hn _) l1 _
mutual
def okT (rf:List Nat):(Nat->Bool)->Tr->Bool
 |_,.one _=>true
 |_,.beg=>true
 |_,.fin=>true
 |_,.back n=>rf.contains n
 |o,.grp n r=>if rf.contains n then !(o (rf.idxOf n))&&okTs rf (updB o (rf.idxOf n) true) r else okTs rf o r
 |o,.rep _ _ x=>okT rf o x
def okTs (rf:List Nat):(Nat->Bool)->List Tr->Bool
 |_,[]=>true
 |o,x::r=>okT rf o x&&okTs rf o r
end
mutual
theorem ty_item (rf:List Nat):∀(x:Tr) (o:Nat->Bool),okT rf o x=true->TyG rf.length o (fun d n c=>itemD rf x d n c)
 | .one f,o,_=>by intro d n c G hn;simp only[itemD];exact ty_put (.one f n) (fun G' hG' ho=>stok_last (by simp only;rw[ho];exact tg_app hn _ hG'))
 | .beg,o,_=>by intro d n c G hn;simp only[itemD];exact ty_put (.beg n) (fun G' hG' ho=>stok_last (by simp only;rw[ho];exact tg_app hn _ hG'))
 | .fin,o,_=>by intro d n c G hn;simp only[itemD];exact ty_put (.fin n) (fun G' hG' ho=>stok_last (by simp only;rw[ho];exact tg_app hn _ hG'))
 | .back k,o,hk=>by
  intro d n c G hn
  simp only[itemD]
  have hm:k∈rf:=by simpa[okT]using hk
  exact ty_put (.bck (rf.idxOf k) n) (fun G' hG' ho=>stok_last (by simp only;rw[ho];exact⟨List.idxOf_lt_length_of_mem hm,tg_app hn _ hG'⟩))
 | .grp k r,o,hk=>by
  intro d n c G hn
  simp only[itemD]
  simp only[okT]at hk
  by_cases hm:k∈rf
  ·rw[if_pos (by simpa using hm)]at hk
   simp only[Bool.and_eq_true,Bool.not_eq_true']at hk
   simp only[if_pos hm]
   have hs:=List.idxOf_lt_length_of_mem hm
   generalize rf.idxOf k=s at*
   obtain⟨G0,z1,z2,z3⟩:=ty_put (k:=rf.length) (d:=d) (o2:=updB o s true) (c:=c) (G:=G) (.shut s n) (fun G' hG' ho=>stok_last (by simp only;rw[ho];exact⟨hs,by simp[updB],by rw[updB_back hk.1];exact tg_app hn _ hG'⟩))
   obtain⟨G1,a1,a2,a3⟩:=ty_row rf r (updB o s true) hk.2 d c.length (c++ [(.shut s n,d)]) G0 z3
   obtain⟨l1,l2⟩:=gd_row rf r d c.length (c++ [(.shut s n,d)])
   simp only at a2 a3 l1 l2
   generalize rowD rf r d c.length (c++ [(.shut s n,d)])=q at*
   simp only[List.length_append,List.length_singleton]at l1 l2 a1 a2 z2
   obtain⟨G2,b1,b2,b3⟩:=ty_put (k:=rf.length) (d:=d) (o2:=o) (c:=q.1) (G:=G1) (.opn s q.2) (fun G' hG' ho=>stok_last (by simp only;rw[ho];exact⟨hs,tg_app a3 _ hG'⟩))
   refine⟨G2,fun p hp=>(b1 p (by omega)).trans ((a1 p (by omega)).trans (z1 p hp)),fun p h1 h2=>?_,b3⟩
   rcases Nat.lt_or_ge p q.1.length with hp|hp
   ·have hx:StOk q.1 rf.length G1 p:=by
     rcases Nat.lt_or_ge p (c.length+1)with hp2|hp2
     ·exact(z2 p h1 hp2).ext (by simp;omega) (l2 p hp2) (deps_pre (by simpa using l2)) (by simpa using a1)
     ·exact a2 p hp2 hp
    exact hx.ext hp (List.getElem?_append_left hp) (deps_pre (fun q hq=>List.getElem?_append_left hq)) b1
   ·exact b2 p hp h2
  ·rw[if_neg (by simpa using hm)]at hk
   simp only[if_neg hm]
   exact ty_row rf r o hk d n c G hn
 | .rep a b x,o,hk=>by
  intro d n c G hn
  simp only[okT]at hk
  simp only[itemD]
  split
  ·exact ty_item rf x o hk d n c G hn
  ·exact ty_rep (ty_item rf x o hk) (gd_item rf x) _ a b d n c G hn
theorem ty_row (rf:List Nat):∀(r:List Tr) (o:Nat->Bool),okTs rf o r=true->TyG rf.length o (fun d n c=>rowD rf r d n c)
 | [],o,_=>by intro d n c G hn;simp only[rowD];exact ty_nil hn
 |x::r,o,hk=>by
  intro d n c G hn
  simp only[okTs,Bool.and_eq_true]at hk
  simp only[rowD]
  have l1:=(gd_row rf r d n c).1
  exact(ty_row rf r o hk.2 d n c G hn).seq l1 (ty_item rf x o hk.1) (gd_item rf x)
end
theorem build_ty(rf:List Nat)(r:List Tr)(h:okTs rf (fun _=>false) r=true):∃G:Nat->Nat->Bool,(∀p,p<(buildD rf r).1.length->StOk (buildD rf r).1 rf.length G p)/\Tg (buildD rf r).1 G (buildD rf r).2 0 (fun _=>false):=by
 obtain⟨G1,a1,a2,a3⟩:=ty_row rf r (fun _=>false) h 0 0 [(.done,0)] (fun _ _=>false) ⟨.done,0,rfl,Nat.le_refl _,rfl⟩
 obtain⟨l1,l2⟩:=gd_row rf r 0 0 [(.done,0)]
 refine⟨G1,fun p hp=>?_,a3⟩
 rcases Nat.eq_zero_or_pos p with h0|h0
 ·subst h0
  intro x d hx
  have:(buildD rf r).1[0]?=some (.done,0):=(l2 0 (by simp)).trans rfl
  rw[this]at hx
  cases hx
  trivial
 ·exact a2 p (by simp;omega) hp
end Go.Proofs.YtldiemjlpnachaaGreatDoor

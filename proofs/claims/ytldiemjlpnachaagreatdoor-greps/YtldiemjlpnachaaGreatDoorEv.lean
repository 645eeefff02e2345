import Derived.Test.YtldiemjlpnachaaGreatDoorBpn
namespace Go.Proofs.YtldiemjlpnachaaGreatDoor
def iterE{α:Type}(f:α->List α):Nat->List α->List α
 |0,L=>L
 |n+1,L=>iterE f n (L.flatMap f)
def moreE{α:Type}(f:α->List α):Nat->List α->List α
 |0,L=>L
 |n+1,L=>L++moreE f n (L.flatMap f)
mutual
def itemE (l:List UInt8) (rf:List Nat):Tr->Cf->List Cf
 | .one f,u=>if u.1<l.length/\f (ch l u.1)=true then [(u.1+1,u.2)]else []
 | .beg,u=>if u.1=0 then [u]else []
 | .fin,u=>if u.1=l.length then [u]else []
 | .back n,u=>match u.2 (rf.idxOf n)with
  | .sp a b=>if Std l a b u.1=true then [(u.1+(b-a),u.2)]else []
  |_=> []
 | .grp n r,u=>if n∈rf then(rowE l rf r (u.1,setM u.2 (rf.idxOf n) (.op u.1))).filterMap (fun x=>match x.2 (rf.idxOf n)with
  | .op q=>some (x.1,setM x.2 (rf.idxOf n) (.sp q x.1))
  |_=>none)else rowE l rf r u
 | .rep a b x,u=>moreE (fun z=>(itemE l rf x z).filter (fun y=>decide (z.1<y.1))) (if b= -1 then l.length else(b-a).toNat) (iterE (fun z=>itemE l rf x z) a.toNat [u])
def rowE (l:List UInt8) (rf:List Nat):List Tr->Cf->List Cf
 | [],u=> [u]
 |x::r,u=>(itemE l rf x u).flatMap (fun y=>rowE l rf r y)
end
theorem pow_le{l:List UInt8}{R:Cf->Cf->Prop}(h:∀u v,u.1<=l.length->R u v->v.1<=l.length):∀ {n:Nat} {u v:Cf},u.1<=l.length->PowG R n u v->v.1<=l.length
 |_,_,_,hu,.zero _=>hu
 |_,_,_,hu,.succ h1 h2=>pow_le h (h _ _ hu h1) h2
mutual
theorem mg_le (l:List UInt8) (rf:List Nat):∀(x:Tr) (u v:Cf),u.1<=l.length->Mg l rf x u v->v.1<=l.length
 | .one f,u,v,_,h=>by simp only[Mg]at h;obtain⟨h1,_,rfl⟩:=h;exact h1
 | .beg,u,v,hu,h=>by simp only[Mg]at h;rw[h.2];exact hu
 | .fin,u,v,hu,h=>by simp only[Mg]at h;rw[h.2];exact hu
 | .back n,u,v,_,h=>by simp only[Mg]at h;obtain⟨a,b,_,h2,rfl⟩:=h;exact h2.1
 | .grp n r,u,v,hu,h=>by
  simp only[Mg]at h
  split at h
  ·obtain⟨x,q,h1,_,rfl⟩:=h
   exact mg_row_le l rf r _ x (by exact hu) h1
  ·exact mg_row_le l rf r _ _ hu h
 | .rep a b x,u,v,hu,h=>by
  simp only[Mg]at h
  obtain⟨y,h1,t,_,h2⟩:=h
  exact pow_le (fun _ _ h3 h4=>mg_le l rf x _ _ h3 h4.1) (pow_le (fun _ _ h3 h4=>mg_le l rf x _ _ h3 h4) hu h1) h2
theorem mg_row_le (l:List UInt8) (rf:List Nat):∀(r:List Tr) (u v:Cf),u.1<=l.length->MgRow l rf r u v->v.1<=l.length
 | [],u,v,hu,h=>by simp only[MgRow]at h;rw[h];exact hu
 |x::r,u,v,hu,h=>by
  simp only[MgRow]at h
  obtain⟨y,h1,h2⟩:=h
  exact mg_row_le l rf r _ _ (mg_le l rf x _ _ hu h1) h2
end
theorem mem_iterE{l:List UInt8}{f:Cf->List Cf}{R:Cf->Cf->Prop}(hf:∀u v,u.1<=l.length->(v∈f u↔R u v))(hR:∀u v,u.1<=l.length->R u v->v.1<=l.length):∀(n:Nat) (L:List Cf) (v:Cf),(∀u∈L,u.1<=l.length)->(v∈iterE f n L↔∃u∈L,PowG R n u v)
 |0,L,v,_=>by
  rw[iterE]
  constructor
  ·exact fun h=>⟨v,h,.zero _⟩
  ·rintro⟨u,h1,h2⟩
   cases h2
   exact h1
 |n+1,L,v,hL=>by
  rw[iterE,mem_iterE hf hR n (L.flatMap f) v (fun u hu=>by
   obtain⟨z,h1,h2⟩:=List.mem_flatMap.1 hu
   exact hR z u (hL z h1) ((hf z u (hL z h1)).1 h2))]
  constructor
  ·rintro⟨u,h1,h2⟩
   obtain⟨z,h3,h4⟩:=List.mem_flatMap.1 h1
   exact⟨z,h3,.succ ((hf z u (hL z h3)).1 h4) h2⟩
  ·rintro⟨u,h1,h2⟩
   cases h2 with
   |succ h3 h4=>exact⟨_,List.mem_flatMap.2 ⟨u,h1,(hf u _ (hL u h1)).2 h3⟩,h4⟩
theorem mem_moreE{l:List UInt8}{f:Cf->List Cf}{R:Cf->Cf->Prop}(hf:∀u v,u.1<=l.length->(v∈f u↔R u v))(hR:∀u v,u.1<=l.length->R u v->v.1<=l.length):∀(n:Nat) (L:List Cf) (v:Cf),(∀u∈L,u.1<=l.length)->(v∈moreE f n L↔∃u∈L,∃t,t<=n/\PowG R t u v)
 |0,L,v,_=>by
  rw[moreE]
  constructor
  ·exact fun h=>⟨v,h,0,Nat.le_refl _,.zero _⟩
  ·rintro⟨u,h1,t,h2,h3⟩
   obtain rfl:t=0:=by omega
   cases h3
   exact h1
 |n+1,L,v,hL=>by
  rw[moreE,List.mem_append,mem_moreE hf hR n (L.flatMap f) v (fun u hu=>by
   obtain⟨z,h1,h2⟩:=List.mem_flatMap.1 hu
   exact hR z u (hL z h1) ((hf z u (hL z h1)).1 h2))]
  constructor
  ·rintro(h|⟨u,h1,t,h2,h3⟩)
   ·exact⟨v,h,0,Nat.zero_le _,.zero _⟩
   ·obtain⟨z,h4,h5⟩:=List.mem_flatMap.1 h1
    exact⟨z,h4,t+1,by omega,.succ ((hf z u (hL z h4)).1 h5) h3⟩
  ·rintro⟨u,h1,t,h2,h3⟩
   cases h3 with
   |zero _=>exact .inl h1
   |succ h4 h5=>exact .inr ⟨_,List.mem_flatMap.2 ⟨u,h1,(hf u _ (hL u h1)).2 h4⟩,_,by omega,h5⟩
theorem adv_bound{R:Cf->Cf->Prop}:∀ {t:Nat} {u v:Cf},PowG (Adv R) t u v->u.1+t<=v.1
 |_,_,_,.zero _=>Nat.le_refl _
 |_,_,_,.succ h1 h2=>by
  have:=adv_bound h2
  have:=h1.2
  omega
mutual
theorem mem_itemE (l:List UInt8) (rf:List Nat):∀(x:Tr) (u v:Cf),u.1<=l.length->(v∈itemE l rf x u↔Mg l rf x u v)
 | .one f,u,v,_=>by
  simp only[itemE,Mg]
  split
  ·rename_i h
   simp[h]
  ·rename_i h
   simp only[List.not_mem_nil,false_iff]
   exact fun h2=>h ⟨h2.1,h2.2.1⟩
 | .beg,u,v,_=>by
  simp only[itemE,Mg]
  split
  ·rename_i h;simp[h]
  ·rename_i h;simp[h]
 | .fin,u,v,_=>by
  simp only[itemE,Mg]
  split
  ·rename_i h;simp[h]
  ·rename_i h;simp[h]
 | .back n,u,v,_=>by
  simp only[itemE,Mg]
  cases hm:u.2 (rf.idxOf n)with
  |no=>simp
  |op p=>simp
  |sp a b=>
   simp only
   split
   ·rename_i h
    rw[List.mem_singleton]
    constructor
    ·exact fun e=>⟨a,b,rfl,std_iff.1 h,e⟩
    ·rintro⟨a',b',e,_,h2⟩
     cases e
     exact h2
   ·rename_i h
    simp only[List.not_mem_nil,false_iff]
    rintro⟨a',b',e,h2,_⟩
    cases e
    exact h (std_iff.2 h2)
 | .grp n r,u,v,hu=>by
  simp only[itemE,Mg]
  split
  ·rw[List.mem_filterMap]
   constructor
   ·rintro⟨x,h1,h2⟩
    cases hm:x.2 (rf.idxOf n)with
    |no=>rw[hm]at h2;cases h2
    |sp a b=>rw[hm]at h2;cases h2
    |op q=>
     rw[hm]at h2
     cases h2
     exact⟨x,q,(mem_rowE l rf r _ x (by exact hu)).1 h1,hm,rfl⟩
   ·rintro⟨x,q,h1,h2,rfl⟩
    exact⟨x,(mem_rowE l rf r _ x (by exact hu)).2 h1,by rw[h2]⟩
  ·exact mem_rowE l rf r u v hu
 | .rep a b x,u,v,hu=>by
  simp only[itemE,Mg]
  have hf:∀u v:Cf,u.1<=l.length->(v∈itemE l rf x u↔Mg l rf x u v):=fun u v h=>mem_itemE l rf x u v h
  have hR:∀u v:Cf,u.1<=l.length->Mg l rf x u v->v.1<=l.length:=mg_le l rf x
  have hf2:∀u v:Cf,u.1<=l.length->(v∈(itemE l rf x u).filter (fun y=>decide (u.1<y.1))↔Adv (fun u v=>Mg l rf x u v) u v):=fun u v h=>by
   rw[List.mem_filter,hf u v h,decide_eq_true_iff]
   exact Iff.rfl
  have hR2:∀u v:Cf,u.1<=l.length->Adv (fun u v=>Mg l rf x u v) u v->v.1<=l.length:=fun u v h k=>hR u v h k.1
  have hL:∀z∈iterE (fun z=>itemE l rf x z) a.toNat [u],z.1<=l.length:=fun z hz=>by
   obtain⟨y,h1,h2⟩:=(mem_iterE hf hR a.toNat [u] z (fun y hy=>by rw[List.mem_singleton]at hy;rw[hy];exact hu)).1 hz
   rw[List.mem_singleton]at h1
   rw[h1]at h2
   exact pow_le (fun u v h k=>hR u v h k) hu h2
  rw[mem_moreE hf2 hR2 _ _ v hL]
  unfold Rpt
  constructor
  ·rintro⟨z,h1,t,h2,h3⟩
   obtain⟨y,h4,h5⟩:=(mem_iterE hf hR a.toNat [u] z (fun y hy=>by rw[List.mem_singleton]at hy;rw[hy];exact hu)).1 h1
   rw[List.mem_singleton]at h4
   rw[h4]at h5
   refine⟨z,h5,t,?_,h3⟩
   by_cases hb:b= -1
   ·exact .inl hb
   ·rw[if_neg hb]at h2;exact .inr h2
  ·rintro⟨z,h1,t,h2,h3⟩
   refine⟨z,(mem_iterE hf hR a.toNat [u] z (fun y hy=>by rw[List.mem_singleton]at hy;rw[hy];exact hu)).2 ⟨u,by simp,h1⟩,t,?_,h3⟩
   by_cases hb:b= -1
   ·rw[if_pos hb]
    have h4:=adv_bound h3
    have h5:=pow_le hR2 (pow_le (fun u v h k=>hR u v h k) hu h1) h3
    omega
   ·rw[if_neg hb]
    exact h2.resolve_left hb
theorem mem_rowE (l:List UInt8) (rf:List Nat):∀(r:List Tr) (u v:Cf),u.1<=l.length->(v∈rowE l rf r u↔MgRow l rf r u v)
 | [],u,v,_=>by simp only[rowE,MgRow,List.mem_singleton]
 |x::r,u,v,hu=>by
  simp only[rowE,MgRow,List.mem_flatMap]
  constructor
  ·rintro⟨y,h1,h2⟩
   have h3:=(mem_itemE l rf x u y hu).1 h1
   exact⟨y,h3,(mem_rowE l rf r y v (mg_le l rf x _ _ hu h3)).1 h2⟩
  ·rintro⟨y,h1,h2⟩
   exact⟨y,(mem_itemE l rf x u y hu).2 h1,(mem_rowE l rf r y v (mg_le l rf x _ _ hu h1)).2 h2⟩
end
theorem pow_pair{R:Cf->Cf->Prop}{M:Nat->Nat->Prop}(h:∀i j μ ν,R (i,μ) (j,ν)↔M i j/\ν=μ):∀(n i j:Nat) (μ ν:Mks),PowG R n (i,μ) (j,ν)↔Pow M n i j/\ν=μ
 |0,i,j,μ,ν=>by
  constructor
  ·intro h1;cases h1;exact⟨.zero _,rfl⟩
  ·rintro⟨h1,rfl⟩;cases h1;exact .zero _
 |n+1,i,j,μ,ν=>by
  constructor
  ·intro h1
   cases h1 with
   |succ h2 h3=>
    rename_i w
    obtain⟨k,κ⟩:=w
    obtain⟨h4,rfl⟩:=(h _ _ _ _).1 h2
    obtain⟨h5,rfl⟩:=(pow_pair h n _ _ _ _).1 h3
    exact⟨.succ h4 h5,rfl⟩
  ·rintro⟨h1,rfl⟩
   cases h1 with
   |succ h2 h3=>exact .succ ((h _ _ _ _).2 ⟨h2,rfl⟩) ((pow_pair h n _ _ _ _).2 ⟨h3,rfl⟩)
theorem pow_drop{M:Nat->Nat->Prop}(hM:∀i j,M i j->i<=j):∀ {n i j:Nat},Pow M n i j->∃t,t<=n/\Pow (fun i j=>M i j/\i<j) t i j
 |_,_,_,.zero _=>⟨0,Nat.le_refl _,.zero _⟩
 |_,_,_,.succ (n:=n) (i:=i) (j:=j) h1 h2=>by
  obtain⟨t,h3,h4⟩:=pow_drop hM h2
  by_cases h:i<j
  ·exact⟨t+1,by omega,.succ ⟨h1,h⟩ h4⟩
  ·have:=hM i j h1
   have e:i=j:=by omega
   rw[e]
   exact⟨t,by omega,h4⟩
theorem pow_weak{M M':Nat->Nat->Prop}(h:∀i j,M i j->M' i j):∀ {n i j:Nat},Pow M n i j->Pow M' n i j
 |_,_,_,.zero _=> .zero _
 |_,_,_,.succ h1 h2=> .succ (h _ _ h1) (pow_weak h h2)
mutual
theorem mg_mt (l:List UInt8):∀(x:Tr),bks [] x->∀(i j:Nat) (μ ν:Mks),Mg l [] x (i,μ) (j,ν)↔Mt l x i j/\ν=μ
 | .one f,_,i,j,μ,ν=>by
  simp only[Mg,Mt,Prod.mk.injEq]
  exact⟨fun h=>⟨⟨h.1,h.2.1,h.2.2.1⟩,h.2.2.2⟩,fun h=>⟨h.1.1,h.1.2.1,h.1.2.2,h.2⟩⟩
 | .beg,_,i,j,μ,ν=>by
  simp only[Mg,Mt,Prod.mk.injEq]
  exact⟨fun h=>⟨⟨h.1,h.2.1⟩,h.2.2⟩,fun h=>⟨h.1.1,h.1.2,h.2⟩⟩
 | .fin,_,i,j,μ,ν=>by
  simp only[Mg,Mt,Prod.mk.injEq]
  exact⟨fun h=>⟨⟨h.1,h.2.1⟩,h.2.2⟩,fun h=>⟨h.1.1,h.1.2,h.2⟩⟩
 | .back n,hb,_,_,_,_=>by simp[bks]at hb
 | .grp n r,hb,i,j,μ,ν=>by
  simp only[bks]at hb
  simp only[Mg,Mt,List.not_mem_nil,if_false]
  exact mgrow_mt l r hb i j μ ν
 | .rep a b x,hb,i,j,μ,ν=>by
  simp only[bks]at hb
  have ih:=fun i j μ ν=>mg_mt l x hb i j μ ν
  have fwd:∀i j,Mt l x i j->i<=j:=fun i j h=>mg_fwd l [] x (i,fun _=> .no) (j,fun _=> .no) ((ih i j _ _).2 ⟨h,rfl⟩)
  have ih2:∀i j μ ν,Adv (fun u v=>Mg l [] x u v) (i,μ) (j,ν)↔(Mt l x i j/\i<j)/\ν=μ:=fun i j μ ν=>by
   show(Mg l [] x (i,μ) (j,ν)/\i<j)↔_
   rw[ih]
   exact⟨fun h=>⟨⟨h.1.1,h.2⟩,h.1.2⟩,fun h=>⟨⟨h.1.1,h.2⟩,h.1.2⟩⟩
  simp only[Mg,Mt]
  unfold Rpt
  constructor
  ·rintro⟨⟨k,κ⟩,h1,t,h2,h3⟩
   obtain⟨h4,rfl⟩:=(pow_pair ih a.toNat i k μ κ).1 h1
   obtain⟨h5,rfl⟩:=(pow_pair ih2 t k j _ ν).1 h3
   refine⟨⟨a.toNat+t,by omega,?_,h4.add (pow_weak (fun _ _ h=>h.1) h5)⟩,rfl⟩
   rcases h2 with h2|h2
   ·exact .inl h2
   ·exact .inr (by omega)
  ·rintro⟨⟨k,h1,h2,h3⟩,rfl⟩
   obtain⟨m,rfl⟩:∃m,k=a.toNat+m:=⟨k-a.toNat,by omega⟩
   obtain⟨q,h4,h5⟩:=Pow.split a.toNat h3
   obtain⟨t,h6,h7⟩:=pow_drop fwd h5
   refine⟨(q,ν),(pow_pair ih _ _ _ _ _).2 ⟨h4,rfl⟩,t,?_,(pow_pair ih2 _ _ _ _ _).2 ⟨h7,rfl⟩⟩
   rcases h2 with h2|h2
   ·exact .inl h2
   ·exact .inr (by omega)
theorem mgrow_mt (l:List UInt8):∀(r:List Tr),bkss [] r->∀(i j:Nat) (μ ν:Mks),MgRow l [] r (i,μ) (j,ν)↔MtRow l r i j/\ν=μ
 | [],_,i,j,μ,ν=>by simp only[MgRow,MtRow,Prod.mk.injEq]
 |x::r,hb,i,j,μ,ν=>by
  simp only[bkss]at hb
  simp only[MgRow,MtRow]
  constructor
  ·rintro⟨⟨k,κ⟩,h1,h2⟩
   obtain⟨h3,rfl⟩:=(mg_mt l x hb.1 _ _ _ _).1 h1
   obtain⟨h4,rfl⟩:=(mgrow_mt l r hb.2 _ _ _ _).1 h2
   exact⟨⟨k,h3,h4⟩,rfl⟩
  ·rintro⟨⟨k,h1,h2⟩,rfl⟩
   exact⟨(k,ν),(mg_mt l x hb.1 _ _ _ _).2 ⟨h1,rfl⟩,(mgrow_mt l r hb.2 _ _ _ _).2 ⟨h2,rfl⟩⟩
end
theorem fm_mg{pl:List UInt8}(hok:(parseT pl).1=0)(s:List UInt8)(i j:Nat):Fm pl s i j↔(refT0 pl= []\/s.length<=24)/\∃μ,MgRow s (refT0 pl) ((itsT pl).map (·.3)) (i,fun _=> .no) (j,μ):=by
 unfold Fm
 by_cases hr:refT0 pl= []
 ·rw[if_pos hr]
  have hb:=(refs_T hok).1
  rw[hr]at hb ⊢
  constructor
  ·exact fun h=>⟨.inl rfl,_,(mgrow_mt s _ hb _ _ _ _).2 ⟨h,rfl⟩⟩
  ·rintro⟨_,μ,h⟩
   exact((mgrow_mt s _ hb _ _ _ _).1 h).1
 ·rw[if_neg hr]
  constructor
  ·exact fun h=>⟨.inr h.1,h.2⟩
  ·exact fun h=>⟨h.1.resolve_left hr,h.2⟩
def scanE(l:List UInt8)(rf:List Nat)(r:List Tr):Nat->Nat->Option (Nat×Nat)
 |0,_=>none
 |f+1,i=>match(rowE l rf r (i,fun _=> .no)).map (·.1)with
  | []=>scanE l rf r f (i+1)
  |x::xs=>some (i,xs.foldl max x)
theorem foldl_max:∀(xs:List Nat) (x:Nat),(x<=xs.foldl max x/\∀y∈xs,y<=xs.foldl max x)/\(xs.foldl max x=x\/xs.foldl max x∈xs)
 | [],x=>⟨⟨Nat.le_refl _,fun y h=>by simp at h⟩,.inl rfl⟩
 |z::r,x=>by
  rw[List.foldl_cons]
  obtain⟨⟨h1,h2⟩,h3⟩:=foldl_max r (max x z)
  refine⟨⟨by omega,fun y hy=>?_⟩,?_⟩
  ·rcases List.mem_cons.1 hy with rfl|hy
   ·omega
   ·exact h2 y hy
  ·rcases h3 with h3|h3
   ·rcases Nat.le_total x z with h|h
    ·exact .inr (by rw[h3,Nat.max_eq_right h];simp)
    ·exact .inl (by rw[h3,Nat.max_eq_left h])
   ·exact .inr (by simp[h3])
theorem scanE_ok{l:List UInt8}{rf:List Nat}{r:List Tr}{M:Nat->Nat->Prop}(hM:∀i j,i<=l.length->(M i j↔∃μ,MgRow l rf r (i,fun _=> .no) (j,μ))):∀(f i fr:Nat),fr<=i->i+f=l.length+1->(∀x y,fr<=x->x<i->¬M x y)->match scanE l rf r f i with
  |some (a,b)=>Best l.length M fr true a b
  |none=>Best l.length M fr false 0 0
 |0,i,fr,_,hi,hno=>⟨(fun h=>by cases h),fun _=>⟨rfl,rfl,fun x y h1 h2=>hno x y h1 (by omega)⟩⟩
 |f+1,i,fr,hfi,hi,hno=>by
  rw[scanE]
  have mem:∀j,j∈(rowE l rf r (i,fun _=> .no)).map (·.1)↔M i j:=fun j=>by
   rw[hM i j (by omega),List.mem_map]
   constructor
   ·rintro⟨⟨j',μ⟩,h1,rfl⟩
    exact⟨μ,(mem_rowE l rf r _ _ (by show i<=_;omega)).1 h1⟩
   ·rintro⟨μ,h⟩
    exact⟨(j,μ),(mem_rowE l rf r _ _ (by show i<=_;omega)).2 h,rfl⟩
  cases hr:(rowE l rf r (i,fun _=> .no)).map (·.1)with
  |nil=>
   rw[hr]at mem
   exact scanE_ok hM f (i+1) fr (by omega) (by omega) (fun x y h1 h2 h3=>by
    rcases Nat.lt_or_ge x i with h|h
    ·exact hno x y h1 h h3
    ·have e:x=i:=by omega
     rw[e,<-mem]at h3
     simp at h3)
  |cons z zs=>
   rw[hr]at mem
   obtain⟨⟨g1,g2⟩,g3⟩:=foldl_max zs z
   refine⟨fun _=>⟨hfi,by omega,(mem _).1 ?_,fun x y h1 h2 h3=>?_⟩,fun h=>(by cases h)⟩
   ·rcases g3 with g3|g3
    ·rw[g3];simp
    ·simp[g3]
   ·have h4:¬x<i:=fun h=>hno x y h1 h h3
    refine⟨by omega,fun e=>?_⟩
    rw[e,<-mem]at h3
    rcases List.mem_cons.1 h3 with rfl|h3
    ·exact g1
    ·exact g2 y h3
def findE(p s:List UInt8)(fr:Nat):Option (Nat×Nat):=if refT0 p≠ []/\24<s.length then none else scanE s (refT0 p) ((itsT p).map (·.3)) (s.length+1-fr) fr
theorem findE_ok{p s:List UInt8}(hok:(parseT p).1=0){fr:Nat}(hf:fr<=s.length):match findE p s fr with
  |some (a,b)=>Best s.length (Fm p s) fr true a b
  |none=>Best s.length (Fm p s) fr false 0 0:=by
 unfold findE
 by_cases h:refT0 p≠ []/\24<s.length
 ·rw[if_pos h]
  refine⟨(fun h=>by cases h),fun _=>⟨rfl,rfl,fun x y _ _ hm=>?_⟩⟩
  have:=((fm_mg hok s x y).1 hm).1
  rcases this with h1|h1
  ·exact h.1 h1
  ·omega
 ·rw[if_neg h]
  refine scanE_ok (M:=Fm p s) (fun i j _=>?_) (s.length+1-fr) fr fr (Nat.le_refl _) (by omega) (fun x y h1 h2=>by omega)
  rw[fm_mg hok s i j]
  refine⟨fun h2=>h2.2,fun h2=>⟨?_,h2⟩⟩
  by_cases hr:refT0 p= []
  ·exact .inl hr
  ·refine .inr ?_
   rcases Nat.lt_or_ge 24 s.length with h3|h3
   ·exact absurd ⟨hr,h3⟩ h
   ·exact h3
end Go.Proofs.YtldiemjlpnachaaGreatDoor
set_option maxHeartbeats 3200000
set_option maxRecDepth 100000
namespace Go.Proofs.YtldiemjlpnachaaGreatDoor
open Go.RowKit
def resE:Option (Nat×Nat)->Value
 |some (a,b)=> .tuple #[.int .i64 a,.int .i64 b,.bool true]
 |none=> .tuple #[.int .i64 0,.int .i64 0,.bool false]
def findI(p s:List UInt8)(fr:Int):Option (Nat×Nat):=if 0<=fr/\fr<=s.length then findE p s fr.toNat else none
theorem findI_nat(p s:List UInt8){fr:Nat}(h:fr<=s.length):findI p s fr=findE p s fr:=by
 unfold findI
 rw[if_pos ⟨by omega,by omega⟩,Int.toNat_natCast]
theorem findE_in{p s:List UInt8}(hok:(parseT p).1=0){fr a b:Nat}(hf:fr<=s.length)(h:findE p s fr=some (a,b)):fr<=a/\a<=b/\b<=s.length:=by
 have hb:=findE_ok (s:=s) hok hf
 rw[h]at hb
 simp only at hb
 obtain⟨h1,h2,h3,_⟩:=hb.1 rfl
 obtain⟨_,μ,hm⟩:=(fm_mg hok s a b).1 h3
 exact⟨h1,mg_row_fwd s _ _ _ _ hm,mg_row_le s _ _ _ _ (by exact h2) hm⟩
theorem find_res{p s:List UInt8}(hok:(parseT p).1=0){fr:Int}{fd:Bool}{a b:Nat}(h:FindRes s.length (Fm p s) fr fd a b):(.tuple #[.int .i64 a,.int .i64 b,.bool fd]:Value)=resE (findI p s fr):=by
 unfold findI
 by_cases hf:0<=fr/\fr<=s.length
 ·rw[if_pos hf]
  have h1:=h.1 hf
  have h2:=findE_ok (s:=s) hok (fr:=fr.toNat) (by omega)
  cases he:findE p s fr.toNat with
  |none=>
   rw[he]at h2
   obtain⟨rfl,rfl,rfl⟩:=h1.uniq h2
   rfl
  |some x=>
   obtain⟨x,y⟩:=x
   rw[he]at h2
   obtain⟨rfl,rfl,rfl⟩:=h1.uniq h2
   rfl
 ·rw[if_neg hf]
  obtain⟨rfl,rfl,rfl⟩:=h.2 hf
  rfl
theorem ProgIn.below{w0 w w':World}{g:Nat}{l:List UInt8}(h:ProgIn w0 w g l)(k:Below w.heap.size w w'):ProgIn w0 w' g l:=by
 have lg:=World.block_lt_of_cell? w _ h.c0
 simp only at lg
 have c:∀i,w'.cell? ⟨g,i,none⟩=w.cell? ⟨g,i,none⟩:=fun i=>k.cell (by exact lg)
 obtain⟨v,h1,h2,h3,⟨css,ho,hs⟩,h4⟩:=h.code
 exact⟨(c 0).trans h.c0,(c 3).trans h.c3,⟨v,(c 1).trans h1,(c 2).trans h2,(c 4).trans h3,⟨css,owns_same ho (fun b hb=>k.block b (ho.lt b hb).2),hs⟩,h4⟩,h.le⟩
theorem pfind_fun(w0 w:World)(g:Nat)(l:List UInt8)(s:ByteArray)(fr:Int)(hok:(parseT l).1=0)(hP:ProgIn w0 w g l)(hs:s.size<=1000000000):
  Calls Tryz.prog 27 #[.pointer (some ⟨g,0,none⟩),.string s,.int .i64 fr] w fun e w'=>e= .returned (resE (findI l s.data.toList fr))/\Below w.heap.size w w':=by
 refine(pfind_all w0 w g l s fr hok hP hs).mono ?_
 rintro e w' ⟨hb,fd,a,b,rfl,h1,h2⟩
 exact⟨by rw[find_res hok ⟨h1,h2⟩],hb⟩
def allE(p s:List UInt8):Nat->Nat->List (Nat×Nat)
 |0,_=> []
 |f+1,fr=>if fr<=s.length then(match findE p s fr with
  |none=> []
  |some (i,j)=>if i<j then(i,j)::allE p s f j else allE p s f (i+1))else []
theorem allE_fuel{p s:List UInt8}(hok:(parseT p).1=0):∀(f f' fr:Nat),s.length+1<=fr+f->s.length+1<=fr+f'->allE p s f fr=allE p s f' fr
 |0,0,fr,_,_=>rfl
 |0,f'+1,fr,h,_=>by rw[allE,allE,if_neg (by omega)]
 |f+1,0,fr,_,h=>by rw[allE,allE,if_neg (by omega)]
 |f+1,f'+1,fr,h,h'=>by
  rw[allE,allE]
  split
  ·rename_i hf
   cases he:findE p s fr with
   |none=>rfl
   |some x=>
    obtain⟨i,j⟩:=x
    obtain⟨h1,h2,h3⟩:=findE_in hok hf he
    simp only
    split
    ·rw[allE_fuel hok f f' j (by omega) (by omega)]
    ·rw[allE_fuel hok f f' (i+1) (by omega) (by omega)]
  ·rfl
def spc(L:List (Nat×Nat)):List Value:=L.flatMap fun z=> [.int .i64 z.1,.int .i64 z.2]
theorem spc_snoc(L:List (Nat×Nat))(z:Nat×Nat):spc (L++ [z])=spc L++ [.int .i64 z.1,.int .i64 z.2]:=by unfold spc;simp
theorem info_span:(Tryz.prog.info? 46).map (fun i=>(i.zero,i.size,i.bytes))=some (some (.agg #[.int .i64 0,.int .i64 0]),2,16):=by kernel_rfl
theorem uSpan:Tryz.prog.underlying 43=some (.slice 46):=by kernel_rfl
def allP(p:List UInt8)(s:ByteArray)(w w':World)(e:Ending):Prop:=∃v,e= .returned v/\Below w.heap.size w w'/\w'.ownsRow w.heap.size 46 2 v (allE p s.data.toList (s.size+1) 0).length (spc (allE p s.data.toList (s.size+1) 0))
theorem all_any(w0 w:World)(g:Nat)(l:List UInt8)(s:ByteArray)(hok:(parseT l).1=0)(hP:ProgIn w0 w g l)(hs:s.size<=1000000000):
  Calls Tryz.prog 48 #[.pointer (some ⟨g,0,none⟩),.string s] w fun e w'=>allP l s w w' e:=by
 have hs1:(s.size:Int)<=1000000000:=by omega
 have HP:=hd hP
 have Hok:=hd hok
 have Hl:=hd (len_data s)
 clear hP hok
 go_enter Tryz.func48,Tryz.ntmps48
 go_wp2_with fail
 go_loopg [5,6] (s.size+2) (fun f sv fv wr=>∃(fr:Nat) (acc:List (Nat×Nat)) (ua:Option Addr) (uc:Nat),fv= .int .i64 fr/\sv= .slice ua acc.length uc/\fr<=s.size+1/\s.size+1<fr+f/\acc.length<=fr/\Hid (Below w.heap.size w wr)/\Hid (wr.ownsRow w.heap.size 46 2 (.slice ua acc.length uc) acc.length (spc acc))/\Hid (acc++allE l s.data.toList (s.size+1) fr=allE l s.data.toList (s.size+1) 0))
 case atStart=>exact⟨0,[],none,0,rfl,rfl,Nat.zero_le _,by omega,Nat.le_refl _,hd (Below.refl _ _),hd (World.ownsRow_nil _ _ _ _),hd rfl⟩
 case round=>
  obtain⟨fr,acc,ua,uc,rfl,rfl,hfr,hf,hacc,HB,HO,HE⟩:=hrel
  have hfr0:(0:Int)<=(fr:Int):=by omega
  by_cases hle:fr<=s.size
  ·have hle1:(fr:Int)<=(s.size:Int):=by omega
   have Hfd:Hid (Calls Tryz.prog 27 #[.pointer (some ⟨g,0,none⟩),.string s,.int .i64 fr] wr fun e w'=>e= .returned (resE (findE l s.data.toList fr))/\Below wr.heap.size wr w'):=hd (by
    have:=pfind_fun w0 wr g l s fr Hok.out (HP.out.below HB.out) hs
    rw[findI_nat _ _ (by rw[Hl.out];exact hle)]at this
    exact this)
   have Hun:Hid (allE l s.data.toList (s.size+1) fr=(match findE l s.data.toList fr with|none=> []|some (i,j)=>if i<j then(i,j)::allE l s.data.toList (s.size+1) j else allE l s.data.toList (s.size+1) (i+1))):=hd (by
    rw[allE,if_pos (by rw[Hl.out];exact hle)]
    cases he:findE l s.data.toList fr with
    |none=>rfl
    |some x=>
     obtain⟨i,j⟩:=x
     obtain⟨h1,h2,h3⟩:=findE_in Hok.out (by rw[Hl.out];exact hle) he
     simp only
     split
     ·rw[allE_fuel Hok.out s.size (s.size+1) j (by rw[Hl.out];omega) (by rw[Hl.out];omega)]
     ·rw[allE_fuel Hok.out s.size (s.size+1) (i+1) (by rw[Hl.out];omega) (by rw[Hl.out];omega)])
   have Hin:=hd (fun i j=>findE_in (fr:=fr) (a:=i) (b:=j) Hok.out (s:=s.data.toList) (by rw[Hl.out];exact hle))
   go_wp2_with fail
   refine Hfd.out.mono ?_
   rintro e1 w1 ⟨rfl,hb1⟩
   have HB1:=hd (HB.out.trans (hb1.mono HB.out.size))
   have HO1:Hid (w1.ownsRow w.heap.size 46 2 (.slice ua acc.length uc) acc.length (spc acc)):=hd (owns_same HO.out (fun k hk=>hb1.block k (HO.out.lt k hk).2))
   clear hb1 Hfd
   cases he:findE l s.data.toList fr with
   |none=>
    have HF:Hid (allP l s w w1 (.returned (.slice ua acc.length uc))):=hd (by
     have h:=HE.out
     rw[Hun.out,he,List.append_nil]at h
     refine⟨_,rfl,HB1.out,?_⟩
     rw[<-h]
     exact HO1.out)
    clear he Hun Hin HE HO HB HO1 HB1
    unfold resE
    go_wp2
    go_ret
    exact HF.out
   |some x=>
    obtain⟨i,j⟩:=x
    obtain⟨h1,h2,h3⟩:=Hin.out i j he
    rw[Hl.out]at h3
    have hi0:(0:Int)<=(i:Int):=by omega
    have hi1:(i:Int)<=1000000000:=by omega
    have hj1:(j:Int)<=1000000000:=by omega
    by_cases hij:i<j
    ·have hijI:(i:Int)<(j:Int):=by omega
     have HE1:Hid ((acc++ [(i,j)])++allE l s.data.toList (s.size+1) j=allE l s.data.toList (s.size+1) 0):=hd (by
      have h:=HE.out
      rw[Hun.out,he]at h
      simp only at h
      rw[if_pos hij]at h
      rw[List.append_assoc]
      exact h)
     have hsz1:=HB1.out.size
     obtain⟨i0,hi0',hz0,hz1,hz2⟩:=info_parts info_span
     clear he Hun Hin HE HO HB
     unfold resE
     go_wp2_with
      (refine wpList_append_lies _ (by rfl) _ _ _ (by rfl) w.heap.size 46 i0 _ 2 16 uSpan hi0' hz0 hz1 hz2 rfl (by omega) (.slice ua acc.length uc) acc.length (spc acc) (by rfl) (HO1.out.alloc _)
        ⟨w1.heap.size,0,none⟩ 1 1 [.int .i64 i,.int .i64 j] (by rfl) (by rfl) (World.news_of_block (cs:= #[.int .i64 i,.int .i64 j]) (t:=46) (fr:=(0,0)) (heap_alloc_new w1 _)) (by simp[Value.oneCell'])
        (by omega) (by unfold maxLen;omega) (by omega) (by simp;omega) (w1.heap.size+1) (by simp) ?_
       intro gg cap w2 hown2 hgrow hat hlt
       have HB2:Hid (Below w.heap.size w w2):=hd ⟨hgrow.os.trans HB1.out.os,hgrow.tape.trans HB1.out.tape,hgrow.output.trans HB1.out.output,(by have:=hgrow.size;simp at this;omega),fun k hk=>(hgrow.block k (by simp;omega) (fun e=>by have:=(HO1.out.lt k e.symm).1;omega)).trans ((Below.heap_alloc _ _ _ (by omega)).trans (HB1.out.block k hk))⟩
       have HO2:Hid (w2.ownsRow w.heap.size 46 2 (.slice (some ⟨gg,0,none⟩) (acc++ [(i,j)]).length cap) (acc++ [(i,j)]).length (spc (acc++ [(i,j)]))):=hd (by rw[spc_snoc,List.length_append,List.length_singleton];exact hown2)
       clear hown2 hgrow hat hlt)
     go_roundg (gk-1)
     case measure=>omega
     case rel=>exact⟨j,acc++ [(i,j)],some ⟨gg,0,none⟩,cap,rfl,by simp,by omega,by omega,by simp;omega,HB2,HO2,HE1⟩
    ·have hijI:¬(i:Int)<(j:Int):=by omega
     have HE1:Hid (acc++allE l s.data.toList (s.size+1) (i+1)=allE l s.data.toList (s.size+1) 0):=hd (by
      have h:=HE.out
      rw[Hun.out,he]at h
      simp only at h
      rw[if_neg hij]at h
      exact h)
     clear he Hun Hin HE HO HB
     unfold resE
     go_wp2
     go_roundg (gk-1)
     case measure=>omega
     case rel=>exact⟨i+1,acc,ua,uc,by go_num,rfl,by omega,by omega,by omega,HB1,HO1,HE1⟩
  ·have hle1:¬(fr:Int)<=(s.size:Int):=by omega
   have HF:Hid (allP l s w wr (.returned (.slice ua acc.length uc))):=hd (by
    have h:=HE.out
    rw[allE,if_neg (by rw[Hl.out];exact hle),List.append_nil]at h
    refine⟨_,rfl,HB.out,?_⟩
    rw[<-h]
    exact HO.out)
   clear HE HO HB
   go_wp2
   go_ret
   exact HF.out
end Go.Proofs.YtldiemjlpnachaaGreatDoor

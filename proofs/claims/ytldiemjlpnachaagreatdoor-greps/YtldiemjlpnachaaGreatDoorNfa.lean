import Derived.Test.YtldiemjlpnachaaGreatDoorSize
namespace Go.Proofs.YtldiemjlpnachaaGreatDoor
inductive Pow (R:Nat->Nat->Prop):Nat->Nat->Nat->Prop
 |zero (i:Nat):Pow R 0 i i
 |succ {n i j k:Nat}:R i j->Pow R n j k->Pow R (n+1) i k
theorem Pow.add{R:Nat->Nat->Prop}:∀ {n i j m k:Nat},Pow R n i j->Pow R m j k->Pow R (n+m) i k
 |_,_,_,m,_,.zero _,h=>by rw[Nat.zero_add];exact h
 |_,_,_,m,_,.succ (n:=n) h1 h2,h=>by rw[Nat.add_right_comm];exact .succ h1 (h2.add h)
theorem Pow.split{R:Nat->Nat->Prop}:∀(n:Nat) {m i k:Nat},Pow R (n+m) i k->∃j,Pow R n i j/\Pow R m j k
 |0,m,i,k,h=>⟨i,.zero _,by rw[Nat.zero_add]at h;exact h⟩
 |n+1,m,i,k,h=>by
  rw[Nat.add_right_comm]at h
  cases h with
  |succ h1 h2=>
   obtain⟨j,h3,h4⟩:=Pow.split n h2
   exact⟨j,.succ h1 h3,h4⟩
mutual
def Mt (l:List UInt8):Tr->Nat->Nat->Prop
 | .one f,i,j=>i<l.length/\f (ch l i)=true/\j=i+1
 | .beg,i,j=>i=0/\j=i
 | .fin,i,j=>i=l.length/\j=i
 | .back _,i,j=>j=i
 | .grp _ r,i,j=>MtRow l r i j
 | .rep a b x,i,j=>∃k,a.toNat<=k/\(b= -1\/k<=a.toNat+(b-a).toNat)/\Pow (fun u v=>Mt l x u v) k i j
def MtRow (l:List UInt8):List Tr->Nat->Nat->Prop
 | [],i,j=>j=i
 |x::r,i,j=>∃k,Mt l x i k/\MtRow l r k j
end
inductive Stp where
 |done
 |one (f:Nat->Bool) (n:Nat)
 |beg (n:Nat)
 |fin (n:Nat)
 |fork (n o:Nat)
def forksC(g:Nat->List Stp->List Stp×Nat)(next:Nat):Nat->Nat->List Stp->List Stp×Nat
 |0,e,c=>(c,e)
 |k+1,e,c=>((g (forksC g next k e c).2 (forksC g next k e c).1).1++ [.fork (g (forksC g next k e c).2 (forksC g next k e c).1).2 next],(g (forksC g next k e c).2 (forksC g next k e c).1).1.length)
def copiesC(g:Nat->List Stp->List Stp×Nat):Nat->Nat->List Stp->List Stp×Nat
 |0,e,c=>(c,e)
 |k+1,e,c=>g (copiesC g k e c).2 (copiesC g k e c).1
def loopC(g:Nat->List Stp->List Stp×Nat)(next:Nat)(c:List Stp):List Stp×Nat:=
 ((g c.length (c++ [.fork 0 next])).1.set c.length (.fork (g c.length (c++ [.fork 0 next])).2 next),c.length)
def repC(g:Nat->List Stp->List Stp×Nat)(a b:Int)(next:Nat)(c:List Stp):List Stp×Nat:=
 if b= -1 then copiesC g a.toNat (loopC g next c).2 (loopC g next c).1
 else copiesC g a.toNat (forksC g next (b-a).toNat next c).2 (forksC g next (b-a).toNat next c).1
def starT:Tr->Bool
 | .rep a b _=>decide (a=0/\b= -1)
 |_=>false
mutual
def itemC:Tr->Nat->List Stp->List Stp×Nat
 | .one f,n,c=>(c++ [.one f n],c.length)
 | .beg,n,c=>(c++ [.beg n],c.length)
 | .fin,n,c=>(c++ [.fin n],c.length)
 | .back _,n,c=>(c,n)
 | .grp _ r,n,c=>rowC r n c
 | .rep a b x,n,c=>if(a=0/\b= -1)/\starT x=true then itemC x n c else repC (fun n c=>itemC x n c) a b n c
def rowC:List Tr->Nat->List Stp->List Stp×Nat
 | [],n,c=>(c,n)
 |x::r,n,c=>itemC x (rowC r n c).2 (rowC r n c).1
end
def buildC(r:List Tr):List Stp×Nat:=rowC r 0 [.done]
inductive RunN (l:List UInt8) (D:List Stp):Nat->Nat->Nat->Nat->Prop
 |done {p i:Nat}:D[p]?=some .done->RunN l D 0 p i i
 |one {m p i j n:Nat} {f:Nat->Bool}:D[p]?=some (.one f n)->i<l.length->f (ch l i)=true->RunN l D m n (i+1) j->RunN l D (m+1) p i j
 |beg {m p i j n:Nat}:D[p]?=some (.beg n)->i=0->RunN l D m n i j->RunN l D (m+1) p i j
 |fin {m p i j n:Nat}:D[p]?=some (.fin n)->i=l.length->RunN l D m n i j->RunN l D (m+1) p i j
 |forkL {m p i j n o:Nat}:D[p]?=some (.fork n o)->RunN l D m n i j->RunN l D (m+1) p i j
 |forkR {m p i j n o:Nat}:D[p]?=some (.fork n o)->RunN l D m o i j->RunN l D (m+1) p i j
def Run(l:List UInt8)(D:List Stp)(p i j:Nat):Prop:=∃m,RunN l D m p i j
def Has(D c':List Stp)(a:Nat):Prop:=∀k,a<=k->k<c'.length->D[k]?=c'[k]?
structure Frag (l : List UInt8) (M : Nat → Nat → Prop) (n : Nat) (c : List Stp) (r : List Stp × Nat) : Prop where
  len : c.length ≤ r.1.length
  pre : ∀ k, k < c.length → r.1[k]? = c[k]?
  to : ∀ D, Has D r.1 c.length → ∀ m i j, RunN l D m r.2 i j → ∃ k m', m' ≤ m ∧ M i k ∧ RunN l D m' n k j
  from_ : ∀ D, Has D r.1 c.length → ∀ i k j, M i k → Run l D n k j → Run l D r.2 i j
def FragG(l:List UInt8)(M:Nat->Nat->Prop)(g:Nat->List Stp->List Stp×Nat):Prop:=∀n c,Frag l M n c (g n c)
theorem frag_nil(l:List UInt8)(n:Nat)(c:List Stp):Frag l (fun i j=>j=i) n c (c,n):=
 ⟨Nat.le_refl _,fun _ _=>rfl,fun _ _ m i j h=>⟨i,m,Nat.le_refl _,rfl,h⟩,fun _ _ i k j hk h=>by rw[hk]at h;exact h⟩
theorem has_last{D c:List Stp}{x:Stp}(h:Has D (c++ [x]) c.length):D[c.length]?=some x:=by
 rw[h c.length (Nat.le_refl _) (by simp)]
 simp
theorem frag_one(l:List UInt8)(f:Nat->Bool):FragG l (fun i j=>i<l.length/\f (ch l i)=true/\j=i+1) (fun n c=>(c++ [.one f n],c.length)):=by
 intro n c
 refine⟨by simp,fun k hk=>by simp[List.getElem?_append_left hk],fun D hD m i j h=>?_,fun D hD i k j hk h=>?_⟩
 ·have e:=has_last hD
  cases h with
  |done h1=>rw[e]at h1;cases h1
  |one h1 h2 h3 h4=>rw[e]at h1;cases h1;exact⟨i+1,_,by omega,⟨h2,h3,rfl⟩,h4⟩
  |beg h1=>rw[e]at h1;cases h1
  |fin h1=>rw[e]at h1;cases h1
  |forkL h1=>rw[e]at h1;cases h1
  |forkR h1=>rw[e]at h1;cases h1
 ·obtain⟨h1,h2,rfl⟩:=hk
  obtain⟨m,h⟩:=h
  exact⟨_,.one (has_last hD) h1 h2 h⟩
theorem frag_beg(l:List UInt8):FragG l (fun i j=>i=0/\j=i) (fun n c=>(c++ [.beg n],c.length)):=by
 intro n c
 refine⟨by simp,fun k hk=>by simp[List.getElem?_append_left hk],fun D hD m i j h=>?_,fun D hD i k j hk h=>?_⟩
 ·have e:=has_last hD
  cases h with
  |done h1=>rw[e]at h1;cases h1
  |one h1=>rw[e]at h1;cases h1
  |beg h1 h2 h3=>rw[e]at h1;cases h1;exact⟨i,_,by omega,⟨h2,rfl⟩,h3⟩
  |fin h1=>rw[e]at h1;cases h1
  |forkL h1=>rw[e]at h1;cases h1
  |forkR h1=>rw[e]at h1;cases h1
 ·obtain⟨h1,rfl⟩:=hk
  obtain⟨m,h⟩:=h
  exact⟨_,.beg (has_last hD) h1 h⟩
theorem frag_fin(l:List UInt8):FragG l (fun i j=>i=l.length/\j=i) (fun n c=>(c++ [.fin n],c.length)):=by
 intro n c
 refine⟨by simp,fun k hk=>by simp[List.getElem?_append_left hk],fun D hD m i j h=>?_,fun D hD i k j hk h=>?_⟩
 ·have e:=has_last hD
  cases h with
  |done h1=>rw[e]at h1;cases h1
  |one h1=>rw[e]at h1;cases h1
  |fin h1 h2 h3=>rw[e]at h1;cases h1;exact⟨i,_,by omega,⟨h2,rfl⟩,h3⟩
  |beg h1=>rw[e]at h1;cases h1
  |forkL h1=>rw[e]at h1;cases h1
  |forkR h1=>rw[e]at h1;cases h1
 ·obtain⟨h1,rfl⟩:=hk
  obtain⟨m,h⟩:=h
  exact⟨_,.fin (has_last hD) h1 h⟩
theorem Frag.seq{l:List UInt8}{M N:Nat->Nat->Prop}{n:Nat}{c:List Stp}{r:List Stp×Nat}{g:Nat->List Stp->List Stp×Nat}(h:Frag l N n c r)(hg:FragG l M g):Frag l (fun i j=>∃k,M i k/\N k j) n c (g r.2 r.1):=by
 have hb:=hg r.2 r.1
 have has1:∀D,Has D (g r.2 r.1).1 c.length->Has D r.1 c.length:=fun D hD k h1 h2=>by rw[hD k h1 (by have:=hb.len;omega),hb.pre k h2]
 have has2:∀D,Has D (g r.2 r.1).1 c.length->Has D (g r.2 r.1).1 r.1.length:=fun D hD k h1 h2=>hD k (by have:=h.len;omega) h2
 refine⟨Nat.le_trans h.len hb.len,fun k hk=>by rw[hb.pre k (by have:=h.len;omega),h.pre k hk],fun D hD m i j hr=>?_,fun D hD i k j hk hr=>?_⟩
 ·obtain⟨k,m1,h1,h2,h3⟩:=hb.to D (has2 D hD) m i j hr
  obtain⟨k2,m2,h4,h5,h6⟩:=h.to D (has1 D hD) m1 k j h3
  exact⟨k2,m2,by omega,⟨k,h2,h5⟩,h6⟩
 ·obtain⟨k1,h1,h2⟩:=hk
  exact hb.from_ D (has2 D hD) i k1 j h1 (h.from_ D (has1 D hD) k1 k j h2 hr)
theorem Frag.congr{l:List UInt8}{M N:Nat->Nat->Prop}{n:Nat}{c:List Stp}{r:List Stp×Nat}(h:Frag l M n c r)(e:∀i j,M i j↔N i j):Frag l N n c r:=by
 have:M=N:=by funext i j;exact propext (e i j)
 rw[<-this];exact h
theorem frag_copies{l:List UInt8}{M N:Nat->Nat->Prop}{g:Nat->List Stp->List Stp×Nat}(hg:FragG l M g){n:Nat}{c c0:List Stp}{e:Nat}(h:Frag l N n c0 (c,e)):∀t,Frag l (fun i j=>∃k,Pow M t i k/\N k j) n c0 (copiesC g t e c)
 |0=>h.congr (fun i j=>⟨fun h=>⟨i,.zero _,h⟩,fun⟨k,h1,h2⟩=>by cases h1;exact h2⟩)
 |t+1=>by
  refine((frag_copies hg h t).seq hg).congr (fun i j=>⟨?_,?_⟩)
  ·rintro⟨k,h1,k2,h2,h3⟩
   exact⟨k2,.succ h1 h2,h3⟩
  ·rintro⟨k,h1,h2⟩
   cases h1 with
   |succ h3 h4=>exact⟨_,h3,k,h4,h2⟩
theorem Frag.fork{l:List UInt8}{M:Nat->Nat->Prop}{n:Nat}{c:List Stp}{r:List Stp×Nat}(h:Frag l M n c r):Frag l (fun i j=>M i j\/j=i) n c (r.1++ [.fork r.2 n],r.1.length):=by
 have has1:∀D,Has D (r.1++ [.fork r.2 n]) c.length->Has D r.1 c.length:=fun D hD k h1 h2=>by rw[hD k h1 (by simp;omega),List.getElem?_append_left h2]
 have hl:∀D,Has D (r.1++ [.fork r.2 n]) c.length->D[r.1.length]?=some (.fork r.2 n):=fun D hD=>by rw[hD _ h.len (by simp)];simp
 refine⟨by simp;have:=h.len;omega,fun k hk=>by rw[List.getElem?_append_left (by have:=h.len;omega),h.pre k hk],fun D hD m i j hr=>?_,fun D hD i k j hk hr=>?_⟩
 ·have e:=hl D hD
  cases hr with
  |done h1=>rw[e]at h1;cases h1
  |one h1=>rw[e]at h1;cases h1
  |fin h1=>rw[e]at h1;cases h1
  |beg h1=>rw[e]at h1;cases h1
  |forkL h1 h2=>
   rw[e]at h1;cases h1
   obtain⟨k,m1,h3,h4,h5⟩:=h.to D (has1 D hD) _ i j h2
   exact⟨k,m1,by omega,.inl h4,h5⟩
  |forkR h1 h2=>rw[e]at h1;cases h1;exact⟨i,_,by omega,.inr rfl,h2⟩
 ·rcases hk with hk|rfl
  ·obtain⟨m,hm⟩:=h.from_ D (has1 D hD) i k j hk hr
   exact⟨_,.forkL (hl D hD) hm⟩
  ·obtain⟨m,hm⟩:=hr
   exact⟨_,.forkR (hl D hD) hm⟩
theorem frag_forks{l:List UInt8}{M:Nat->Nat->Prop}{g:Nat->List Stp->List Stp×Nat}(hg:FragG l M g)(n:Nat)(c:List Stp):∀t,Frag l (fun i j=>∃k,k<=t/\Pow M k i j) n c (forksC g n t n c)
 |0=>(frag_nil l n c).congr (fun i j=>⟨fun h=>⟨0,Nat.le_refl _,by subst h;exact .zero _⟩,fun⟨k,h1,h2⟩=>by
   obtain rfl:k=0:=by omega
   cases h2;rfl⟩)
 |t+1=>by
  refine(((frag_forks hg n c t).seq hg).fork).congr (fun i j=>⟨?_,?_⟩)
  ·rintro(⟨k,h1,k2,h2,h3⟩|rfl)
   ·exact⟨k2+1,by omega,.succ h1 h3⟩
   ·exact⟨0,by omega,.zero _⟩
  ·rintro⟨k,h1,h2⟩
   cases h2 with
   |zero=>exact .inr rfl
   |succ h3 h4=>exact .inl ⟨_,h3,_,by omega,h4⟩
theorem frag_loop{l:List UInt8}{M:Nat->Nat->Prop}{g:Nat->List Stp->List Stp×Nat}(hg:FragG l M g)(n:Nat)(c:List Stp):Frag l (fun i j=>∃k,Pow M k i j) n c (loopC g n c):=by
 have hb:=hg c.length (c++ [.fork 0 n])
 unfold loopC
 generalize g c.length (c++ [.fork 0 n])=r at hb
 have hlen:=hb.len
 simp only[List.length_append,List.length_singleton]at hlen
 have hl:∀D,Has D (r.1.set c.length (.fork r.2 n)) c.length->D[c.length]?=some (.fork r.2 n):=fun D hD=>by
  rw[hD _ (Nat.le_refl _) (by simp;omega),List.getElem?_set_self (by omega)]
 have has1:∀D,Has D (r.1.set c.length (.fork r.2 n)) c.length->Has D r.1 (c++ [Stp.fork 0 n]).length:=fun D hD k h1 h2=>by
  simp only[List.length_append,List.length_singleton]at h1
  rw[hD k (by omega) (by simpa using h2),List.getElem?_set_ne (by omega)]
 refine⟨by simp;omega,fun k hk=>?_,fun D hD m=>?_,fun D hD i k j hk hr=>?_⟩
 ·show(r.1.set c.length (.fork r.2 n))[k]?=_
  rw[List.getElem?_set_ne (by omega),hb.pre k (by simp;omega),List.getElem?_append_left hk]
 ·induction m using Nat.strongRecOn with
  |ind m ih=>
   intro i j hr
   have e:=hl D hD
   cases hr with
   |done h1=>rw[e]at h1;cases h1
   |one h1=>rw[e]at h1;cases h1
   |fin h1=>rw[e]at h1;cases h1
   |beg h1=>rw[e]at h1;cases h1
   |forkL h1 h2=>
    rw[e]at h1;cases h1
    obtain⟨k,m1,h3,h4,h5⟩:=hb.to D (has1 D hD) _ i j h2
    obtain⟨k2,m2,h6,⟨t,h7⟩,h8⟩:=ih m1 (by omega) k j h5
    exact⟨k2,m2,by omega,⟨t+1,.succ h4 h7⟩,h8⟩
   |forkR h1 h2=>rw[e]at h1;cases h1;exact⟨i,_,by omega,⟨0,.zero _⟩,h2⟩
 ·obtain⟨t,ht⟩:=hk
  induction ht with
  |zero i=>
   obtain⟨m,hm⟩:=hr
   exact⟨_,.forkR (hl D hD) hm⟩
  |succ h1 _ ih=>
   obtain⟨m,hm⟩:=hb.from_ D (has1 D hD) _ _ j h1 (ih hr)
   exact⟨_,.forkL (hl D hD) hm⟩
theorem frag_rep{l:List UInt8}{M:Nat->Nat->Prop}{g:Nat->List Stp->List Stp×Nat}(hg:FragG l M g)(a b:Int):FragG l (fun i j=>∃k,a.toNat<=k/\(b= -1\/k<=a.toNat+(b-a).toNat)/\Pow M k i j) (repC g a b):=by
 intro n c
 unfold repC
 by_cases hb:b= -1
 ·rw[if_pos hb]
  refine(frag_copies hg (n:=n) (c0:=c) (c:=(loopC g n c).1) (e:=(loopC g n c).2) (frag_loop hg n c) a.toNat).congr (fun i j=>⟨?_,?_⟩)
  ·rintro⟨k,h1,t,h2⟩
   exact⟨a.toNat+t,by omega,.inl hb,h1.add h2⟩
  ·rintro⟨k,h1,_,h2⟩
   obtain⟨t,rfl⟩:∃t,k=a.toNat+t:=⟨k-a.toNat,by omega⟩
   obtain⟨j1,h3,h4⟩:=Pow.split _ h2
   exact⟨j1,h3,t,h4⟩
 ·rw[if_neg hb]
  refine(frag_copies hg (n:=n) (c0:=c) (c:=(forksC g n (b-a).toNat n c).1) (e:=(forksC g n (b-a).toNat n c).2) (frag_forks hg n c _) a.toNat).congr (fun i j=>⟨?_,?_⟩)
  ·rintro⟨k,h1,t,h2,h3⟩
   exact⟨a.toNat+t,by omega,.inr (by omega),h1.add h3⟩
  ·rintro⟨k,h1,h2,h3⟩
   obtain⟨t,rfl⟩:∃t,k=a.toNat+t:=⟨k-a.toNat,by omega⟩
   obtain⟨j1,h3,h4⟩:=Pow.split _ h3
   exact⟨j1,h3,t,by omega,h4⟩
theorem star_pow{R:Nat->Nat->Prop}:∀ {k i j:Nat},Pow (fun u v=>∃m,Pow R m u v) k i j->∃m,Pow R m i j
 |_,i,_,.zero _=>⟨0,.zero _⟩
 |_,_,_,.succ ⟨m,h1⟩ h2=>by
  obtain⟨t,h3⟩:=star_pow h2
  exact⟨m+t,h1.add h3⟩
theorem star_star{l:List UInt8}{a b:Int}{x:Tr}(h:(a=0/\b= -1)/\starT x=true)(i j:Nat):Mt l x i j↔∃k,a.toNat<=k/\(b= -1\/k<=a.toNat+(b-a).toNat)/\Pow (fun u v=>Mt l x u v) k i j:=by
 obtain⟨⟨rfl,rfl⟩,hx⟩:=h
 cases x with
 |rep c d y=>
  simp[starT]at hx
  obtain⟨rfl,rfl⟩:=hx
  have e:(fun u v=>Mt l (.rep 0 (-1) y) u v)=fun u v=>∃m,Pow (fun u v=>Mt l y u v) m u v:=by
   funext u v
   simp only[Mt]
   apply propext
   constructor
   ·rintro⟨k,_,_,h⟩;exact⟨k,h⟩
   ·rintro⟨k,h⟩;exact⟨k,by simp,by simp,h⟩
  constructor
  ·intro h
   exact⟨1,by simp,Or.inl rfl,.succ h (.zero _)⟩
  ·rintro⟨k,_,_,h⟩
   rw[e]at h
   have:=star_pow h
   have e2:Mt l (.rep 0 (-1) y) i j=∃m,Pow (fun u v=>Mt l y u v) m i j:=congrFun (congrFun e i) j
   rw[e2]
   exact this
 |_=>simp[starT]at hx
mutual
theorem frag_item (l:List UInt8):∀x:Tr,FragG l (fun i j=>Mt l x i j) (fun n c=>itemC x n c)
 | .one f=>by intro n c;simp only[Mt,itemC];exact frag_one l f n c
 | .beg=>by intro n c;simp only[Mt,itemC];exact frag_beg l n c
 | .fin=>by intro n c;simp only[Mt,itemC];exact frag_fin l n c
 | .back _=>by intro n c;simp only[Mt,itemC];exact frag_nil l n c
 | .grp _ r=>by intro n c;simp only[Mt,itemC];exact frag_row l r n c
 | .rep a b x=>by
  intro n c
  simp only[Mt,itemC]
  split
  ·rename_i h
   exact(frag_item l x n c).congr (star_star h)
  ·exact frag_rep (frag_item l x) a b n c
theorem frag_row (l:List UInt8):∀r:List Tr,FragG l (fun i j=>MtRow l r i j) (fun n c=>rowC r n c)
 | []=>by intro n c;simp only[MtRow,rowC];exact frag_nil l n c
 |x::r=>by intro n c;simp only[MtRow,rowC];exact(frag_row l r n c).seq (frag_item l x)
end
theorem build_ok(l:List UInt8)(r:List Tr)(i j:Nat):Run l (buildC r).1 (buildC r).2 i j↔MtRow l r i j:=by
 have h:=frag_row l r 0 [.done]
 have hD:Has (buildC r).1 (rowC r 0 [.done]).1 ([Stp.done]).length:=fun k _ _=>rfl
 have h0:(buildC r).1[0]?=some .done:=(h.pre 0 (by simp)).trans rfl
 constructor
 ·rintro⟨m,hm⟩
  obtain⟨k,m',_,h1,h2⟩:=h.to _ hD m i j hm
  cases h2 with
  |done _=>exact h1
  |one h3=>rw[h0]at h3;cases h3
  |beg h3=>rw[h0]at h3;cases h3
  |fin h3=>rw[h0]at h3;cases h3
  |forkL h3=>rw[h0]at h3;cases h3
  |forkR h3=>rw[h0]at h3;cases h3
 ·intro hm
  exact h.from_ _ hD i j j hm ⟨0,.done h0⟩
end Go.Proofs.YtldiemjlpnachaaGreatDoor
namespace Go.Proofs.YtldiemjlpnachaaGreatDoor
inductive Sk where
 |done
 |one (f:Nat->Bool) (n:Nat)
 |beg (n:Nat)
 |fin (n:Nat)
 |fork (n o:Nat)
 |opn (s n:Nat)
 |shut (s n:Nat)
 |bck (s n:Nat)
 |gain (n:Nat)
abbrev Sd:=Sk×Nat
abbrev Lay:=Nat->Nat->List Sd->List Sd×Nat
def copiesD(g:Lay)(d:Nat):Nat->Nat->List Sd->List Sd×Nat
 |0,e,c=>(c,e)
 |k+1,e,c=>g d (copiesD g d k e c).2 (copiesD g d k e c).1
def forksD(g:Lay)(d next:Nat):Nat->Nat->List Sd->List Sd×Nat
 |0,e,c=>(c,e)
 |k+1,e,c=>((g d (forksD g d next k e c).2 (forksD g d next k e c).1).1++ [(.fork (g d (forksD g d next k e c).2 (forksD g d next k e c).1).2 next,d)],(g d (forksD g d next k e c).2 (forksD g d next k e c).1).1.length)
def loopD(g:Lay)(d next:Nat)(c:List Sd):List Sd×Nat:=
 ((g d c.length (c++ [(.fork 0 next,d)])).1.set c.length (.fork (g d c.length (c++ [(.fork 0 next,d)])).2 next,d),c.length)
def repD(g gb:Lay)(a b:Int)(d next:Nat)(c:List Sd):List Sd×Nat:=
 if b= -1 then copiesD g d a.toNat (loopD gb d next c).2 (loopD gb d next c).1
 else copiesD g d a.toNat (forksD gb d next (b-a).toNat next c).2 (forksD gb d next (b-a).toNat next c).1
def beyD(p:Bool)(g:Lay):Lay:=fun d n c=>if p=true then g d n c else g (d+1) c.length (c++ [(.gain n,d+1)])
mutual
def hasB:Tr->Bool
 | .one _=>true
 | .beg=>false
 | .fin=>false
 | .back _=>false
 | .grp _ r=>hasBs r
 | .rep a _ x=>decide (0<a)&&hasB x
def hasBs:List Tr->Bool
 | []=>false
 |x::r=>hasB x||hasBs r
end
mutual
def itemD (rf:List Nat):Tr->Nat->Nat->List Sd->List Sd×Nat
 | .one f,d,n,c=>(c++ [(.one f n,d)],c.length)
 | .beg,d,n,c=>(c++ [(.beg n,d)],c.length)
 | .fin,d,n,c=>(c++ [(.fin n,d)],c.length)
 | .back k,d,n,c=>(c++ [(.bck (rf.idxOf k) n,d)],c.length)
 | .grp k r,d,n,c=>if k∈rf then((rowD rf r d c.length (c++ [(.shut (rf.idxOf k) n,d)])).1++ [(.opn (rf.idxOf k) (rowD rf r d c.length (c++ [(.shut (rf.idxOf k) n,d)])).2,d)],(rowD rf r d c.length (c++ [(.shut (rf.idxOf k) n,d)])).1.length)else rowD rf r d n c
 | .rep a b x,d,n,c=>if(a=0/\b= -1)/\starT x=true then itemD rf x d n c else repD (fun d n c=>itemD rf x d n c) (beyD (rf.isEmpty||hasB x) (fun d n c=>itemD rf x d n c)) a b d n c
def rowD (rf:List Nat):List Tr->Nat->Nat->List Sd->List Sd×Nat
 | [],_,n,c=>(c,n)
 |x::r,d,n,c=>itemD rf x d (rowD rf r d n c).2 (rowD rf r d n c).1
end
def buildD(rf:List Nat)(r:List Tr):List Sd×Nat:=rowD rf r 0 0 [(.done,0)]
def Gd(g:Lay):Prop:=∀d n c,c.length<=(g d n c).1.length/\∀k,k<c.length->(g d n c).1[k]?=c[k]?
theorem gd_put(x:Nat->Nat->Sk):Gd (fun d n c=>(c++ [(x d n,d)],c.length)):=fun d n c=>⟨by simp,fun k hk=>by simp[List.getElem?_append_left hk]⟩
theorem gd_copies{g:Lay}(hg:Gd g)(d:Nat):∀t e c,c.length<=(copiesD g d t e c).1.length/\∀k,k<c.length->(copiesD g d t e c).1[k]?=c[k]?
 |0,e,c=>⟨Nat.le_refl _,fun _ _=>rfl⟩
 |t+1,e,c=>by
  obtain⟨h1,h2⟩:=gd_copies hg d t e c
  obtain⟨h3,h4⟩:=hg d (copiesD g d t e c).2 (copiesD g d t e c).1
  rw[copiesD]
  exact⟨by omega,fun k hk=>by rw[h4 k (by omega),h2 k hk]⟩
theorem gd_forks{g:Lay}(hg:Gd g)(d next:Nat):∀t e c,c.length<=(forksD g d next t e c).1.length/\∀k,k<c.length->(forksD g d next t e c).1[k]?=c[k]?
 |0,e,c=>⟨Nat.le_refl _,fun _ _=>rfl⟩
 |t+1,e,c=>by
  obtain⟨h1,h2⟩:=gd_forks hg d next t e c
  obtain⟨h3,h4⟩:=hg d (forksD g d next t e c).2 (forksD g d next t e c).1
  rw[forksD]
  refine⟨by simp only[List.length_append,List.length_singleton];omega,fun k hk=>?_⟩
  show((g d (forksD g d next t e c).2 (forksD g d next t e c).1).1++_)[k]?=_
  rw[List.getElem?_append_left (by omega),h4 k (by omega),h2 k hk]
theorem gd_loop{g:Lay}(hg:Gd g)(d next:Nat)(c:List Sd):c.length<(loopD g d next c).1.length/\∀k,k<c.length->(loopD g d next c).1[k]?=c[k]?:=by
 obtain⟨h1,h2⟩:=hg d c.length (c++ [(.fork 0 next,d)])
 unfold loopD
 simp only[List.length_append,List.length_singleton,List.length_set]at h1 h2 ⊢
 refine⟨by omega,fun k hk=>?_⟩
 rw[List.getElem?_set_ne (by omega),h2 k (by omega),List.getElem?_append_left hk]
theorem gd_bey{g:Lay}(hg:Gd g)(p:Bool):Gd (beyD p g):=by
 intro d n c
 unfold beyD
 split
 ·exact hg d n c
 ·obtain⟨h1,h2⟩:=hg (d+1) c.length (c++ [(.gain n,d+1)])
  simp only[List.length_append,List.length_singleton]at h1 h2
  exact⟨by omega,fun k hk=>by rw[h2 k (by omega),List.getElem?_append_left hk]⟩
theorem gd_rep{g gb:Lay}(hg:Gd g)(hb:Gd gb)(a b:Int):Gd (repD g gb a b):=by
 intro d n c
 unfold repD
 split
 ·obtain⟨h1,h2⟩:=gd_loop hb d n c
  obtain⟨h3,h4⟩:=gd_copies hg d a.toNat (loopD gb d n c).2 (loopD gb d n c).1
  exact⟨by omega,fun k hk=>by rw[h4 k (by omega),h2 k hk]⟩
 ·obtain⟨h1,h2⟩:=gd_forks hb d n (b-a).toNat n c
  obtain⟨h3,h4⟩:=gd_copies hg d a.toNat (forksD gb d n (b-a).toNat n c).2 (forksD gb d n (b-a).toNat n c).1
  exact⟨by omega,fun k hk=>by rw[h4 k (by omega),h2 k hk]⟩
mutual
theorem gd_item (rf:List Nat):∀x:Tr,Gd (fun d n c=>itemD rf x d n c)
 | .one f=>by intro d n c;simp only[itemD];exact gd_put (fun _ n=> .one f n) d n c
 | .beg=>by intro d n c;simp only[itemD];exact gd_put (fun _ n=> .beg n) d n c
 | .fin=>by intro d n c;simp only[itemD];exact gd_put (fun _ n=> .fin n) d n c
 | .back k=>by intro d n c;simp only[itemD];exact gd_put (fun _ n=> .bck (rf.idxOf k) n) d n c
 | .grp k r=>by
  intro d n c
  simp only[itemD]
  split
  ·obtain⟨h1,h2⟩:=gd_row rf r d c.length (c++ [(.shut (rf.idxOf k) n,d)])
   simp only[List.length_append,List.length_singleton]at h1 h2 ⊢
   refine⟨by omega,fun j hj=>?_⟩
   rw[List.getElem?_append_left (by omega),h2 j (by omega),List.getElem?_append_left hj]
  ·exact gd_row rf r d n c
 | .rep a b x=>by
  intro d n c
  simp only[itemD]
  split
  ·exact gd_item rf x d n c
  ·exact gd_rep (gd_item rf x) (gd_bey (gd_item rf x) _) a b d n c
theorem gd_row (rf:List Nat):∀r:List Tr,Gd (fun d n c=>rowD rf r d n c)
 | []=>fun d n c=>by simp only[rowD];exact⟨Nat.le_refl _,fun _ _=>trivial⟩
 |x::r=>by
  intro d n c
  simp only[rowD]
  obtain⟨h1,h2⟩:=gd_row rf r d n c
  obtain⟨h3,h4⟩:=gd_item rf x d (rowD rf r d n c).2 (rowD rf r d n c).1
  simp only at h1 h2 h3 h4
  exact⟨by omega,fun k hk=>by rw[h4 k (by omega),h2 k hk]⟩
end
theorem itemD_len(rf:List Nat)(x:Tr)(d n:Nat)(c:List Sd):c.length<=(itemD rf x d n c).1.length:=(gd_item rf x d n c).1
theorem rowD_len(rf:List Nat)(x:List Tr)(d n:Nat)(c:List Sd):c.length<=(rowD rf x d n c).1.length:=(gd_row rf x d n c).1
mutual
def bks (rf:List Nat):Tr->Prop
 | .one _=>True
 | .beg=>True
 | .fin=>True
 | .back n=>n∈rf
 | .grp _ r=>bkss rf r
 | .rep _ _ x=>bks rf x
def bkss (rf:List Nat):List Tr->Prop
 | []=>True
 |x::r=>bks rf x/\bkss rf r
end
mutual
theorem bks_mono {rf rf':List Nat} (h:∀n,n∈rf->n∈rf'):∀x:Tr,bks rf x->bks rf' x
 | .one _,_=>by simp only[bks]
 | .beg,_=>by simp only[bks]
 | .fin,_=>by simp only[bks]
 | .back n,hx=>by simp only[bks]at hx ⊢;exact h n hx
 | .grp _ r,hx=>by simp only[bks]at hx ⊢;exact bkss_mono h r hx
 | .rep _ _ x,hx=>by simp only[bks]at hx ⊢;exact bks_mono h x hx
theorem bkss_mono {rf rf':List Nat} (h:∀n,n∈rf->n∈rf'):∀r:List Tr,bkss rf r->bkss rf' r
 | [],_=>by simp only[bkss]
 |x::r,hx=>by simp only[bkss]at hx ⊢;exact⟨bks_mono h x hx.1,bkss_mono h r hx.2⟩
end
theorem bkss_iff{rf:List Nat}:∀ {r:List Tr},bkss rf r↔∀x∈r,bks rf x
 | []=>by simp[bkss]
 |x::r=>by simp[bkss,bkss_iff (r:=r)]
def skOf:Stp->Sk
 | .done=> .done
 | .one f n=> .one f n
 | .beg n=> .beg n
 | .fin n=> .fin n
 | .fork n o=> .fork n o
def lft(c:List Stp):List Sd:=c.map (fun s=>(skOf s,0))
theorem lft_len(c:List Stp):(lft c).length=c.length:=by simp[lft]
theorem lft_snoc(c:List Stp)(s:Stp):lft c++ [(skOf s,0)]=lft (c++ [s]):=by simp[lft]
def Same(g:Lay)(h:Nat->List Stp->List Stp×Nat):Prop:=∀n c,g 0 n (lft c)=(lft (h n c).1,(h n c).2)
theorem same_copies{g:Lay}{h:Nat->List Stp->List Stp×Nat}(hs:Same g h):∀t e c,copiesD g 0 t e (lft c)=(lft (copiesC h t e c).1,(copiesC h t e c).2)
 |0,e,c=>rfl
 |t+1,e,c=>by rw[copiesD,copiesC,same_copies hs t e c];exact hs _ _
theorem same_forks{g:Lay}{h:Nat->List Stp->List Stp×Nat}(hs:Same g h)(next:Nat):∀t e c,forksD g 0 next t e (lft c)=(lft (forksC h next t e c).1,(forksC h next t e c).2)
 |0,e,c=>rfl
 |t+1,e,c=>by
  rw[forksD,forksC,same_forks hs next t e c]
  simp only
  rw[hs]
  simp only[lft_len]
  rw[<-lft_snoc]
  rfl
theorem same_loop{g:Lay}{h:Nat->List Stp->List Stp×Nat}(hs:Same g h)(next:Nat)(c:List Stp):loopD g 0 next (lft c)=(lft (loopC h next c).1,(loopC h next c).2):=by
 have e:lft c++ [(Sk.fork 0 next,0)]=lft (c++ [.fork 0 next]):=lft_snoc c (.fork 0 next)
 unfold loopD loopC
 rw[e,lft_len,hs]
 simp only[lft,List.map_set]
 rfl
theorem same_rep{g:Lay}{h:Nat->List Stp->List Stp×Nat}(hs:Same g h)(a b:Int):Same (repD g (beyD true g) a b) (repC h a b):=by
 intro n c
 have hb:beyD true g=g:=by funext d n c;simp[beyD]
 unfold repD repC
 rw[hb]
 split
 ·rw[same_loop hs];exact same_copies hs _ _ _
 ·rw[same_forks hs];exact same_copies hs _ _ _
mutual
theorem same_item:∀x:Tr,bks [] x->Same (fun d n c=>itemD [] x d n c) (fun n c=>itemC x n c)
 | .one f,_=>by intro n c;simp only[itemD,itemC,lft_len];rw[<-lft_snoc];rfl
 | .beg,_=>by intro n c;simp only[itemD,itemC,lft_len];rw[<-lft_snoc];rfl
 | .fin,_=>by intro n c;simp only[itemD,itemC,lft_len];rw[<-lft_snoc];rfl
 | .back k,h=>by simp[bks]at h
 | .grp k r,h=>by intro n c;simp only[bks]at h;simp only[itemD,itemC,List.not_mem_nil,if_false];exact same_row r h n c
 | .rep a b x,h=>by
  intro n c
  simp only[bks]at h
  simp only[itemD,itemC]
  split
  ·exact same_item x h n c
  ·exact same_rep (same_item x h) a b n c
theorem same_row:∀r:List Tr,bkss [] r->Same (fun d n c=>rowD [] r d n c) (fun n c=>rowC r n c)
 | [],_=>by intro n c;simp only[rowD,rowC]
 |x::r,h=>by
  intro n c
  simp only[bkss]at h
  simp only[rowD,rowC]
  have e:=same_row r h.2 n c
  simp only at e
  rw[e]
  exact same_item x h.1 _ _
end
theorem build_nil(r:List Tr)(h:bkss [] r):buildD [] r=(lft (buildC r).1,(buildC r).2):=same_row r h 0 [.done]
end Go.Proofs.YtldiemjlpnachaaGreatDoor

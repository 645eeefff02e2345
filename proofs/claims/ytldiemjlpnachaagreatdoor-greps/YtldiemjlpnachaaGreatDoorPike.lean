import Derived.Test.YtldiemjlpnachaaGreatDoorNfa
import Derived.Test.YtldiemjlpnachaaGreatDoorCod
import Derived.Test.YtldiemjlpnachaaGreatDoorFr
import Derived.Deep.QuietTactic
import Derived.BigQuiet
import Derived.BigRegion
import Derived.Deep.RegionHeld3
import Derived.Deep.RegionWith
namespace Go.Proofs.YtldiemjlpnachaaGreatDoor
def Eps(l:List UInt8)(D:List Stp)(t q x:Nat):Prop:=
 (D[q]?=some (.beg x)/\t=0)\/(D[q]?=some (.fin x)/\t=l.length)\/(∃o,D[q]?=some (.fork x o))\/(∃n,D[q]?=some (.fork n x))
inductive Rch (l:List UInt8) (D:List Stp) (p i:Nat):Nat->Nat->Prop
 |refl:Rch l D p i p i
 |eps {q t x:Nat}:Rch l D p i q t->Eps l D t q x->Rch l D p i x t
 |byte {q t n:Nat} {f:Nat->Bool}:Rch l D p i q t->D[q]?=some (.one f n)->t<l.length->f (ch l t)=true->Rch l D p i n (t+1)
theorem Rch.le{l:List UInt8}{D:List Stp}{p i q t:Nat}(h:Rch l D p i q t):i<=t:=by
 induction h with
 |refl=>exact Nat.le_refl _
 |eps _ _ ih=>exact ih
 |byte _ _ _ _ ih=>omega
theorem Rch.hi{l:List UInt8}{D:List Stp}{p i q t:Nat}(h:Rch l D p i q t)(hi:i<=l.length):t<=l.length:=by
 induction h with
 |refl=>exact hi
 |eps _ _ ih=>exact ih
 |byte _ _ _ _ ih=>omega
theorem Rch.trans{l:List UInt8}{D:List Stp}{p i q t r u:Nat}(h:Rch l D p i q t)(k:Rch l D q t r u):Rch l D p i r u:=by
 induction k with
 |refl=>exact h
 |eps _ h2 ih=>exact .eps ih h2
 |byte _ h2 h3 h4 ih=>exact .byte ih h2 h3 h4
theorem Rch.split{l:List UInt8}{D:List Stp}{p i q u:Nat}(h:Rch l D p i q u):∀t,u=t+1->i<=t->∃q0 f n,Rch l D p i q0 t/\D[q0]?=some (.one f n)/\t<l.length/\f (ch l t)=true/\Rch l D n (t+1) q (t+1):=by
 induction h with
 |refl=>intro t h1 h2;omega
 |eps h1 h2 ih=>
  intro t e hi
  obtain⟨q0,f,n,a1,a2,a3,a4,a5⟩:=ih t e hi
  subst e
  exact⟨q0,f,n,a1,a2,a3,a4,.eps a5 h2⟩
 |byte h1 h2 h3 h4 ih=>
  intro t e hi
  injection e with e
  subst e
  exact⟨_,_,_,h1,h2,h3,h4,.refl⟩
theorem Rch.step{l:List UInt8}{D:List Stp}{p i q t x:Nat}(e:Eps l D i p x)(h:Rch l D x i q t):Rch l D p i q t:=(Rch.eps .refl e).trans h
theorem run_rch{l:List UInt8}{D:List Stp}{m p i j:Nat}(h:RunN l D m p i j):∃q,Rch l D p i q j/\D[q]?=some .done:=by
 induction h with
 |done h=>exact⟨_,.refl,h⟩
 |one h1 h2 h3 _ ih=>obtain⟨q,h5,h6⟩:=ih;exact⟨q,(Rch.byte .refl h1 h2 h3).trans h5,h6⟩
 |beg h1 h2 _ ih=>obtain⟨q,h5,h6⟩:=ih;exact⟨q,Rch.step (.inl ⟨h1,h2⟩) h5,h6⟩
 |fin h1 h2 _ ih=>obtain⟨q,h5,h6⟩:=ih;exact⟨q,Rch.step (.inr (.inl ⟨h1,h2⟩)) h5,h6⟩
 |forkL h1 _ ih=>obtain⟨q,h5,h6⟩:=ih;exact⟨q,Rch.step (.inr (.inr (.inl ⟨_,h1⟩))) h5,h6⟩
 |forkR h1 _ ih=>obtain⟨q,h5,h6⟩:=ih;exact⟨q,Rch.step (.inr (.inr (.inr ⟨_,h1⟩))) h5,h6⟩
theorem rch_run{l:List UInt8}{D:List Stp}{p i q j:Nat}(h:Rch l D p i q j):∀u,Run l D q j u->Run l D p i u:=by
 induction h with
 |refl=>exact fun u h=>h
 |eps _ h2 ih=>
  intro u ⟨m,hm⟩
  apply ih
  rcases h2 with⟨h3,h4⟩|⟨h3,h4⟩|⟨o,h3⟩|⟨n,h3⟩
  ·exact⟨_,.beg h3 h4 hm⟩
  ·exact⟨_,.fin h3 h4 hm⟩
  ·exact⟨_,.forkL h3 hm⟩
  ·exact⟨_,.forkR h3 hm⟩
 |byte _ h2 h3 h4 ih=>
  intro u ⟨m,hm⟩
  exact ih u ⟨_,.one h2 h3 h4 hm⟩
theorem run_iff{l:List UInt8}{D:List Stp}{p i j:Nat}(h0:D[0]?=some .done)(hu:∀q,D[q]?=some .done->q=0):Run l D p i j↔Rch l D p i 0 j:=by
 constructor
 ·rintro⟨m,hm⟩
  obtain⟨q,h1,h2⟩:=run_rch hm
  rw[hu q h2]at h1
  exact h1
 ·intro h
  exact rch_run h j ⟨0,.done h0⟩
structure Sx where
 sn:List Nat
 li:List (Nat×Nat)
 fd:Bool
 a:Nat
 b:Nat
def vis(t:Nat)(s:Sx)(q:Nat):Prop:=s.sn[q]?=some (t+1)
def OneAt(D:List Stp)(q:Nat):Prop:=∃f n,D[q]?=some (.one f n)
structure Ent(l:List UInt8)(D:List Stp)(t i p:Nat)(pend:Nat->Prop)(s s':Sx):Prop where
 len:s'.sn.length=s.sn.length
 keep:∀q,vis t s' q\/s'.sn[q]?=s.sn[q]?
 mono:∀q,vis t s q->vis t s' q
 root:vis t s' p\/pend p
 shut:∀q x,¬vis t s q->vis t s' q->Eps l D t q x->vis t s' x\/pend x
 snd:∀q,¬vis t s q->vis t s' q->Rch l D p t q t
 pr:∀q,pend q->Rch l D p t q t
 li:∃X,s'.li=s.li++X/\(∀x∈X,x.2=i/\OneAt D x.1/\vis t s' x.1/\¬vis t s x.1)/\(∀q,¬vis t s q->vis t s' q->OneAt D q->(q,i)∈X)
 cnt:s'.li.length+s.sn.count (t+1)<=s.li.length+s'.sn.count (t+1)
 fd:(s'.fd=s.fd/\s'.a=s.a/\s'.b=s.b/\∀q,¬vis t s q->vis t s' q->D[q]?≠some .done)\/(s'.fd=true/\s'.a=i/\s'.b=t/\∃q,¬vis t s q/\vis t s' q/\D[q]?=some .done)
theorem Ent.start(l:List UInt8)(D:List Stp)(t i p:Nat)(s:Sx):Ent l D t i p (fun x=>x=p) s s:=
 ⟨rfl,fun _=> .inr rfl,fun _ h=>h,.inr rfl,fun _ _ h1 h2=>absurd h2 h1,fun _ h1 h2=>absurd h2 h1,fun q h=>by rw[h];exact .refl,⟨[],by simp,by simp,fun _ h1 h2=>absurd h2 h1⟩,Nat.le_refl _,.inl ⟨rfl,rfl,rfl,fun _ h1 h2=>absurd h2 h1⟩⟩
theorem Ent.weak{l:List UInt8}{D:List Stp}{t i p:Nat}{P Q:Nat->Prop}{s s':Sx}(h:Ent l D t i p P s s')(hP:∀x,P x->vis t s' x\/Q x)(hQ:∀x,Q x->P x):Ent l D t i p Q s s':=
 ⟨h.len,h.keep,h.mono,by rcases h.root with h1|h1;exact .inl h1;exact hP _ h1,fun q x h1 h2 h3=>by rcases h.shut q x h1 h2 h3 with h4|h4;exact .inl h4;exact hP _ h4,h.snd,fun q hq=>h.pr q (hQ q hq),h.li,h.cnt,h.fd⟩
def mark(s:Sx)(t q:Nat):Sx:= {s with sn:=s.sn.set q (t+1)}
theorem vis_mark{s:Sx}{t q x:Nat}(hq:q<s.sn.length):vis t (mark s t q) x↔x=q\/vis t s x:=by
 unfold vis mark
 by_cases e:x=q
 ·subst e
  simp[List.getElem?_set_self hq]
 ·simp only[List.getElem?_set_ne (Ne.symm e)]
  simp[e]
theorem count_mark{s:Sx}{t q:Nat}(hq:q<s.sn.length)(hv:¬vis t s q):(mark s t q).sn.count (t+1)=s.sn.count (t+1)+1:=by
 unfold vis at hv
 unfold mark
 simp only
 rw[List.count_set hq]
 have h1:(s.sn[q]==t+1)=false:=by
  rw[List.getElem?_eq_getElem hq]at hv
  simpa using hv
 simp[h1]
def put1(s:Sx)(t i q:Nat):Stp->Sx
 | .done=> {mark s t q with fd:=true,a:=i,b:=t}
 | .one _ _=> {mark s t q with li:=s.li++ [(q,i)]}
 |_=>mark s t q
theorem put1_sn(s:Sx)(t i q:Nat)(st:Stp):(put1 s t i q st).sn=(mark s t q).sn:=by cases st<;>rfl
theorem Ent.mark{l:List UInt8}{D:List Stp}{t i p q:Nat}{P:Nat->Prop}{s s':Sx}{st:Stp}(h:Ent l D t i p P s s')(hP:∀x,P x->x=q)(hpq:P q)(hq:q<s'.sn.length)(hv:¬vis t s' q)(hst:D[q]?=some st):
  Ent l D t i p (fun x=>Eps l D t q x) s (put1 s' t i q st):=by
 have hvis:∀x,vis t (put1 s' t i q st) x↔x=q\/vis t s' x:=fun x=>by
  rw[<-vis_mark (t:=t) hq]
  unfold vis
  rw[put1_sn]
 have hold:¬vis t s q:=fun h1=>hv (h.mono q h1)
 refine⟨by rw[put1_sn];simp[Go.Proofs.YtldiemjlpnachaaGreatDoor.mark,h.len],fun x=>?_,fun x hx=>(hvis x).2 (.inr (h.mono x hx)),?_,fun x y h1 h2 h3=>?_,fun x h1 h2=>?_,fun x hx=> .eps (h.pr q hpq) hx,?_,?_,?_⟩
 ·by_cases e:x=q
  ·exact .inl ((hvis x).2 (.inl e))
  ·rcases h.keep x with h1|h1
   ·exact .inl ((hvis x).2 (.inr h1))
   ·right
    rw[put1_sn,<-h1]
    simp[Go.Proofs.YtldiemjlpnachaaGreatDoor.mark,List.getElem?_set_ne (Ne.symm e)]
 ·rcases h.root with h1|h1
  ·exact .inl ((hvis p).2 (.inr h1))
  ·exact .inl ((hvis p).2 (.inl (hP p h1)))
 ·rcases(hvis x).1 h2 with rfl|h4
  ·exact .inr h3
  ·rcases h.shut x y h1 h4 h3 with h5|h5
   ·exact .inl ((hvis y).2 (.inr h5))
   ·exact .inl ((hvis y).2 (.inl (hP y h5)))
 ·rcases(hvis x).1 h2 with rfl|h4
  ·exact h.pr x hpq
  ·exact h.snd x h1 h4
 ·obtain⟨X,e,hX,hY⟩:=h.li
  by_cases ho:∃f n,st= .one f n
  ·obtain⟨f,n,rfl⟩:=ho
   refine⟨X++ [(q,i)],by simp[put1,e],fun x hx=>?_,fun x h1 h2 h3=>?_⟩
   ·rcases List.mem_append.1 hx with hx|hx
    ·obtain⟨a1,a2,a3,a4⟩:=hX x hx
     exact⟨a1,a2,(hvis _).2 (.inr a3),a4⟩
    ·simp at hx
     subst hx
     exact⟨rfl,⟨f,n,hst⟩,(hvis _).2 (.inl rfl),hold⟩
   ·rcases(hvis x).1 h2 with rfl|h4
    ·simp
    ·exact List.mem_append_left _ (hY x h1 h4 h3)
  ·refine⟨X,by rw[<-e];cases st<;>first|rfl|exact absurd ⟨_,_,rfl⟩ ho,fun x hx=>?_,fun x h1 h2 h3=>?_⟩
   ·obtain⟨a1,a2,a3,a4⟩:=hX x hx
    exact⟨a1,a2,(hvis _).2 (.inr a3),a4⟩
   ·rcases(hvis x).1 h2 with rfl|h4
    ·obtain⟨f,n,h5⟩:=h3
     rw[hst]at h5
     cases h5
     exact absurd ⟨_,_,rfl⟩ ho
    ·exact hY x h1 h4 h3
 ·have:=h.cnt
  have hc:=count_mark (t:=t) hq hv
  rw[<-put1_sn s' t i q st]at hc
  have hl:(put1 s' t i q st).li.length<=s'.li.length+1:=by cases st<;>simp[put1,Go.Proofs.YtldiemjlpnachaaGreatDoor.mark]
  omega
 ·by_cases hd:st= .done
  ·subst hd
   exact .inr ⟨rfl,rfl,rfl,q,hold,(hvis q).2 (.inl rfl),hst⟩
  ·have e:(put1 s' t i q st).fd=s'.fd/\(put1 s' t i q st).a=s'.a/\(put1 s' t i q st).b=s'.b:=by cases st<;>first|exact absurd rfl hd|exact⟨rfl,rfl,rfl⟩
   rcases h.fd with⟨a1,a2,a3,a4⟩|⟨a1,a2,a3,x,a4,a5,a6⟩
   ·refine .inl ⟨e.1.trans a1,e.2.1.trans a2,e.2.2.trans a3,fun x h1 h2 h3=>?_⟩
    rcases(hvis x).1 h2 with rfl|h4
    ·rw[hst]at h3;cases h3;exact hd rfl
    ·exact a4 x h1 h4 h3
   ·exact .inr ⟨e.1.trans a1,e.2.1.trans a2,e.2.2.trans a3,x,a4,(hvis x).2 (.inr a5),a6⟩
theorem Ent.sub{l:List UInt8}{D:List Stp}{t i p o:Nat}{P:Nat->Prop}{s s' s'':Sx}(h:Ent l D t i p P s s')(k:Ent l D t i o (fun _=>False) s' s'')(hr:Rch l D p t o t):Ent l D t i p (fun x=>P x/\x≠o) s s'':=by
 have hro:vis t s'' o:=by rcases k.root with h1|h1;exact h1;exact h1.elim
 have pd:∀x,P x->vis t s'' x\/(P x/\x≠o):=fun x hx=>by
  by_cases e:x=o
  ·subst e;exact .inl hro
  ·exact .inr ⟨hx,e⟩
 refine⟨k.len.trans h.len,fun q=>?_,fun q hq=>k.mono q (h.mono q hq),?_,fun q x h1 h2 h3=>?_,fun q h1 h2=>?_,fun q hq=>h.pr q hq.1,?_,?_,?_⟩
 ·rcases k.keep q with h1|h1
  ·exact .inl h1
  ·rcases h.keep q with h2|h2
   ·exact .inl (k.mono q h2)
   ·exact .inr (h1.trans h2)
 ·rcases h.root with h1|h1
  ·exact .inl (k.mono p h1)
  ·exact pd p h1
 ·by_cases hv:vis t s' q
  ·rcases h.shut q x h1 hv h3 with h4|h4
   ·exact .inl (k.mono x h4)
   ·exact pd x h4
  ·rcases k.shut q x hv h2 h3 with h4|h4
   ·exact .inl h4
   ·exact h4.elim
 ·by_cases hv:vis t s' q
  ·exact h.snd q h1 hv
  ·exact hr.trans (k.snd q hv h2)
 ·obtain⟨X,e,hX,hY⟩:=h.li
  obtain⟨X2,e2,hX2,hY2⟩:=k.li
  refine⟨X++X2,by rw[e2,e,List.append_assoc],fun x hx=>?_,fun q h1 h2 h3=>?_⟩
  ·rcases List.mem_append.1 hx with hx|hx
   ·obtain⟨a1,a2,a3,a4⟩:=hX x hx
    exact⟨a1,a2,k.mono _ a3,a4⟩
   ·obtain⟨a1,a2,a3,a4⟩:=hX2 x hx
    exact⟨a1,a2,a3,fun h1=>a4 (h.mono _ h1)⟩
  ·by_cases hv:vis t s' q
   ·exact List.mem_append_left _ (hY q h1 hv h3)
   ·exact List.mem_append_right _ (hY2 q hv h2 h3)
 ·have:=h.cnt
  have:=k.cnt
  omega
 ·rcases k.fd with⟨b1,b2,b3,b4⟩|⟨b1,b2,b3,x,b4,b5,b6⟩
  ·rcases h.fd with⟨a1,a2,a3,a4⟩|⟨a1,a2,a3,x,a4,a5,a6⟩
   ·refine .inl ⟨b1.trans a1,b2.trans a2,b3.trans a3,fun q h1 h2 h3=>?_⟩
    by_cases hv:vis t s' q
    ·exact a4 q h1 hv h3
    ·exact b4 q hv h2 h3
   ·exact .inr ⟨b1.trans a1,b2.trans a2,b3.trans a3,x,a4,k.mono _ a5,a6⟩
  ·exact .inr ⟨b1,b2,b3,x,fun h1=>b4 (h.mono _ h1),b5,b6⟩
end Go.Proofs.YtldiemjlpnachaaGreatDoor
namespace Go.Proofs.YtldiemjlpnachaaGreatDoor
variable {l : List UInt8} {D : List Stp} {e f0 t : Nat}
structure Plc(l:List UInt8)(D:List Stp)(e f0 t:Nat)(L:List (Nat×Nat))(fd:Bool)(a b:Nat):Prop where
 snd:∀x∈L,f0<=x.2/\x.2<=t/\Rch l D e x.2 x.1 t/\OneAt D x.1
 cmp:∀i q,f0<=i->Rch l D e i q t->OneAt D q->(fd=true->i<=a)->∃i',i'<=i/\(q,i')∈L
 srt:L.Pairwise (fun x y=>x.2<=y.2)
 fnd:fd=true->f0<=a/\b<=t/\Rch l D e a 0 b
 bst:∀i u,f0<=i->u<=t->Rch l D e i 0 u->fd=true/\a<=i/\(i=a->u<=b)
 zer:fd=false->a=0/\b=0
structure Mid(l:List UInt8)(D:List Stp)(e f0 t:Nat)(L0:List (Nat×Nat))(fd0:Bool)(a0 b0 k:Nat)(s:Sx):Prop where
 hi:∀(q v:Nat),s.sn[q]?=some v->v<=t+2
 shut:∀q x,vis (t+1) s q->Eps l D (t+1) q x->vis (t+1) s x
 lst:∀q,OneAt D q->vis (t+1) s q->∃i',(q,i')∈s.li
 le:∀x∈s.li,∀y∈L0.drop k,x.2<=y.2
 snd:∀x∈s.li,f0<=x.2/\x.2<=t/\Rch l D e x.2 x.1 (t+1)/\OneAt D x.1
 srt:s.li.Pairwise (fun x y=>x.2<=y.2)
 cmp:∀x∈L0.take k,∀f n,D[x.1]?=some (.one f n)->f (ch l t)=true->(vis (t+1) s n/\∀q,Rch l D n (t+1) q (t+1)->OneAt D q->∃i',i'<=x.2/\(q,i')∈s.li)
 dn:∀x∈L0.take k,∀f n,D[x.1]?=some (.one f n)->f (ch l t)=true->Rch l D n (t+1) 0 (t+1)->vis (t+1) s 0/\s.a<=x.2
 no:¬vis (t+1) s 0->s.fd=fd0/\s.a=a0/\s.b=b0
 yes:vis (t+1) s 0->s.fd=true/\s.b=t+1/\f0<=s.a/\s.a<=t/\Rch l D e s.a 0 (t+1)/\(fd0=true->s.a<=a0)/\∀y∈L0.drop k,s.a<=y.2
 cnt:s.li.length<=s.sn.count (t+2)
theorem shut_rch{s:Sx}{u p q w:Nat}(h:∀q x,vis u s q->Eps l D u q x->vis u s x)(hr:Rch l D p w q u)(hw:w=u)(hp:vis u s p):vis u s q:=by
 induction hr with
 |refl=>exact hp
 |eps h1 h2 ih=>subst hw;exact h _ _ (ih h rfl hp) h2
 |byte h1=>have:=h1.le;omega
theorem Mid.start{L0:List (Nat×Nat)}{fd0:Bool}{a0 b0:Nat}{s:Sx}(hi:∀(q v:Nat),s.sn[q]?=some v->v<=t+1)(hL:s.li= [])(h1:s.fd=fd0)(h2:s.a=a0)(h3:s.b=b0):Mid l D e f0 t L0 fd0 a0 b0 0 s:=by
 have nv:∀q,¬vis (t+1) s q:=fun q h=>by
  have:=hi q (t+2) h
  omega
 refine⟨fun q v h=>by have:=hi q v h;omega,fun q x h=>absurd h (nv q),fun q _ h=>absurd h (nv q),?_,?_,?_,?_,?_,fun _=>⟨h1,h2,h3⟩,fun h=>absurd h (nv 0),?_⟩
 ·rw[hL];intro x hx;simp at hx
 ·rw[hL];intro x hx;simp at hx
 ·rw[hL];exact List.Pairwise.nil
 ·intro x hx;simp at hx
 ·intro x hx;simp at hx
 ·rw[hL];simp
theorem take_mem{α:Type}{L:List α}{k:Nat}{x y:α}(hk:L[k]?=some x):y∈L.take (k+1)↔y∈L.take k\/y=x:=by
 obtain⟨h1,h2⟩:=List.getElem?_eq_some_iff.1 hk
 rw[List.take_succ_eq_append_getElem h1,h2]
 simp
theorem drop_mem{α:Type}{L:List α}{k:Nat}{x:α}(hk:L[k]?=some x):L.drop k=x::L.drop (k+1):=by
 obtain⟨h1,h2⟩:=List.getElem?_eq_some_iff.1 hk
 rw[List.drop_eq_getElem_cons h1,h2]
theorem Mid.skip{L0:List (Nat×Nat)}{fd0:Bool}{a0 b0 k:Nat}{s:Sx}{x:Nat×Nat}{f:Nat->Bool}{n:Nat}(h:Mid l D e f0 t L0 fd0 a0 b0 k s)(hk:L0[k]?=some x)(hx:D[x.1]?=some (.one f n))(hf:f (ch l t)=false):Mid l D e f0 t L0 fd0 a0 b0 (k+1) s:=by
 have hd:∀y∈L0.drop (k+1),y∈L0.drop k:=fun y hy=>by rw[drop_mem hk];exact List.mem_cons_of_mem _ hy
 refine⟨h.hi,h.shut,h.lst,fun y hy z hz=>h.le y hy z (hd z hz),h.snd,h.srt,fun y hy f' n' h1 h2=>?_,fun y hy f' n' h1 h2=>?_,h.no,fun hv=>?_,h.cnt⟩
 ·rcases(take_mem hk).1 hy with hy|rfl
  ·exact h.cmp y hy f' n' h1 h2
  ·rw[hx]at h1;cases h1;rw[hf]at h2;cases h2
 ·rcases(take_mem hk).1 hy with hy|rfl
  ·exact h.dn y hy f' n' h1 h2
  ·rw[hx]at h1;cases h1;rw[hf]at h2;cases h2
 ·obtain⟨b1,b2,b3,b4,b5,b6,b7⟩:=h.yes hv
  exact⟨b1,b2,b3,b4,b5,b6,fun y hy=>b7 y (hd y hy)⟩
theorem Mid.go{L0:List (Nat×Nat)}{fd0:Bool}{a0 b0 k:Nat}{s s':Sx}{x:Nat×Nat}{f:Nat->Bool}{n:Nat}(h:Mid l D e f0 t L0 fd0 a0 b0 k s)(hP:Plc l D e f0 t L0 fd0 a0 b0)(hk:L0[k]?=some x)(hx:D[x.1]?=some (.one f n))(hf:f (ch l t)=true)(ht:t<l.length)(hu:∀q,D[q]?=some .done->q=0)
  (h0:D[0]?=some .done)(hnp:¬(s.fd=true/\s.a<x.2))(k1:Ent l D (t+1) x.2 n (fun _=>False) s s'):Mid l D e f0 t L0 fd0 a0 b0 (k+1) s':=by
 have hd:∀y∈L0.drop (k+1),y∈L0.drop k:=fun y hy=>by rw[drop_mem hk];exact List.mem_cons_of_mem _ hy
 have hxL:x∈L0:=List.mem_of_getElem? hk
 have hxd:x∈L0.drop k:=by rw[drop_mem hk];exact List.mem_cons_self ..
 have hxle:∀y∈L0.drop (k+1),x.2<=y.2:=by
  have hp:=hP.srt
  rw[<-List.take_append_drop k L0,drop_mem hk]at hp
  exact(List.pairwise_cons.1 (List.pairwise_append.1 hp).2.1).1
 obtain⟨x1,x2,x3,x4⟩:=hP.snd x hxL
 have hrn:Rch l D e x.2 n (t+1):= .byte x3 hx ht hf
 have hroot:vis (t+1) s' n:=by rcases k1.root with h1|h1;exact h1;exact h1.elim
 have hshut:∀q y,vis (t+1) s' q->Eps l D (t+1) q y->vis (t+1) s' y:=fun q y h1 h2=>by
  by_cases hv:vis (t+1) s q
  ·exact k1.mono _ (h.shut q y hv h2)
  ·rcases k1.shut q y hv h1 h2 with h3|h3
   ·exact h3
   ·exact h3.elim
 obtain⟨X,eX,hX,hY⟩:=k1.li
 have mem:∀y∈s.li,y∈s'.li:=fun y hy=>by rw[eX];exact List.mem_append_left _ hy
 have lsx:∀q,OneAt D q->vis (t+1) s' q->∃i',i'<=x.2/\(q,i')∈s'.li:=fun q ho hv=>by
  by_cases h1:vis (t+1) s q
  ·obtain⟨i',hi'⟩:=h.lst q ho h1
   exact⟨i',h.le _ hi' x hxd,mem _ hi'⟩
  ·exact⟨x.2,Nat.le_refl _,by rw[eX];exact List.mem_append_right _ (hY q h1 hv ho)⟩
 refine⟨fun q v hq=>?_,hshut,fun q ho hv=>?_,fun y hy z hz=>?_,fun y hy=>?_,?_,fun y hy f' n' h1 h2=>?_,fun y hy f' n' h1 h2 h3=>?_,fun hv=>?_,fun hv=>?_,?_⟩
 ·rcases k1.keep q with h1|h1
  ·unfold vis at h1;rw[hq]at h1;cases h1;exact Nat.le_refl _
  ·rw[h1]at hq;exact h.hi q v hq
 ·obtain⟨i',_,h2⟩:=lsx q ho hv
  exact⟨i',h2⟩
 ·rw[eX]at hy
  rcases List.mem_append.1 hy with hy|hy
  ·exact h.le y hy z (hd z hz)
  ·rw[(hX y hy).1];exact hxle z hz
 ·rw[eX]at hy
  rcases List.mem_append.1 hy with hy|hy
  ·exact h.snd y hy
  ·obtain⟨a1,a2,a3,a4⟩:=hX y hy
   rw[a1]
   exact⟨x1,x2,hrn.trans (k1.snd _ a4 a3),a2⟩
 ·rw[eX,List.pairwise_append]
  refine⟨h.srt,?_,fun y hy z hz=>?_⟩
  ·refine List.Pairwise.imp_of_mem (R:=fun _ _=>True) (fun {a b} ha hb _=>?_) (by simp[List.pairwise_iff_forall_sublist])
   rw[(hX a ha).1,(hX b hb).1]
   exact Nat.le_refl _
  ·rw[(hX z hz).1];exact h.le y hy x hxd
 ·rcases(take_mem hk).1 hy with hy|rfl
  ·obtain⟨b1,b2⟩:=h.cmp y hy f' n' h1 h2
   refine⟨k1.mono _ b1,fun q hr ho=>?_⟩
   obtain⟨i',b3,b4⟩:=b2 q hr ho
   exact⟨i',b3,mem _ b4⟩
  ·rw[hx]at h1;cases h1
   exact⟨hroot,fun q hr ho=>lsx q ho (shut_rch hshut hr rfl hroot)⟩
 ·rcases(take_mem hk).1 hy with hy|rfl
  ·obtain⟨b1,b2⟩:=h.dn y hy f' n' h1 h2 h3
   refine⟨k1.mono _ b1,?_⟩
   rcases k1.fd with⟨_,c2,_,_⟩|⟨_,_,_,q,c4,_,c6⟩
   ·rw[c2];exact b2
   ·rw[hu q c6]at c4;exact absurd b1 c4
  ·rw[hx]at h1;cases h1
   have hv:=shut_rch hshut h3 rfl hroot
   refine⟨hv,?_⟩
   rcases k1.fd with⟨_,c2,_,c4⟩|⟨_,c2,_⟩
   ·by_cases h4:vis (t+1) s 0
    ·rw[c2];exact(h.yes h4).2.2.2.2.2.2 _ hxd
    ·exact absurd h0 (c4 0 h4 hv)
   ·rw[c2];exact Nat.le_refl _
 ·rcases k1.fd with⟨c1,c2,c3,_⟩|⟨_,_,_,q,_,c5,c6⟩
  ·rw[c1,c2,c3]
   exact h.no (fun h1=>hv (k1.mono _ h1))
  ·rw[hu q c6]at c5;exact absurd c5 hv
 ·rcases k1.fd with⟨c1,c2,c3,c4⟩|⟨c1,c2,c3,q,c4,c5,c6⟩
  ·have h4:vis (t+1) s 0:=Classical.byContradiction (fun h4=>absurd h0 (c4 0 h4 hv))
   obtain⟨b1,b2,b3,b4,b5,b6,b7⟩:=h.yes h4
   rw[c1,c2,c3]
   exact⟨b1,b2,b3,b4,b5,b6,fun y hy=>b7 y (hd y hy)⟩
  ·have hq0:=hu q c6
   subst hq0
   rw[c1,c2,c3]
   refine⟨rfl,rfl,x1,x2,hrn.trans (k1.snd _ c4 c5),fun hfd=>?_,hxle⟩
   obtain⟨d1,d2,d3⟩:=h.no c4
   rw[d1,d2]at hnp
   exact Nat.le_of_not_lt (fun hlt=>hnp ⟨hfd,hlt⟩)
 ·have h1:=h.cnt
  have h2:=k1.cnt
  rw[show t+1+1=t+2 from rfl]at h2
  omega
theorem Mid.stop{L0:List (Nat×Nat)}{fd0:Bool}{a0 b0 k:Nat}{s:Sx}(h:Mid l D e f0 t L0 fd0 a0 b0 k s)(hP:Plc l D e f0 t L0 fd0 a0 b0)(hfd:s.fd=true)(hk:∀y∈L0.drop k,s.a<y.2):Plc l D e f0 (t+1) s.li s.fd s.a s.b:=by
 have ha:s.a<=t:=by
  by_cases hv:vis (t+1) s 0
  ·exact(h.yes hv).2.2.2.1
  ·obtain⟨d1,d2,d3⟩:=h.no hv
   rw[d2]
   obtain⟨_,h2,h3⟩:=hP.fnd (d1.symm.trans hfd)
   have:=h3.le
   omega
 have ha0:fd0=true->s.a<=a0:=fun hf=>by
  by_cases hv:vis (t+1) s 0
  ·exact(h.yes hv).2.2.2.2.2.1 hf
  ·rw[(h.no hv).2.1];exact Nat.le_refl _
 --a way that gets beyond the byte,from a start that matters
 have key:∀i q,f0<=i->i<=t->Rch l D e i q (t+1)->(fd0=true->i<=a0)->∃x f n,x∈L0/\x.2<=i/\D[x.1]?=some (.one f n)/\f (ch l t)=true/\Rch l D n (t+1) q (t+1)/\(x∈L0.take k\/x∈L0.drop k):=by
  intro i q h1 h2 hr h3
  obtain⟨q0,f,n,c1,c2,_,c4,c5⟩:=hr.split t rfl h2
  obtain⟨i',c6,c7⟩:=hP.cmp i q0 h1 c1 ⟨f,n,c2⟩ h3
  refine⟨(q0,i'),f,n,c7,c6,c2,c4,c5,?_⟩
  rw[<-List.take_append_drop k L0]at c7
  exact List.mem_append.1 c7
 refine⟨fun x hx=>?_,fun i q h1 h2 h3 h4=>?_,h.srt,fun _=>?_,fun i u h1 h2 h3=>?_,fun hz=>by rw[hfd]at hz;cases hz⟩
 ·obtain⟨b1,b2,b3,b4⟩:=h.snd x hx
  exact⟨b1,by omega,b3,b4⟩
 ·have hia:=h4 hfd
  obtain⟨x,f,n,c1,c2,c3,c4,c5,c6⟩:=key i q h1 (by omega) h2 (fun hf=>by have:=ha0 hf;omega)
  rcases c6 with c6|c6
  ·obtain⟨i',b1,b2⟩:=(h.cmp x c6 f n c3 c4).2 q c5 h3
   exact⟨i',by omega,b2⟩
  ·have:=hk x c6
   omega
 ·by_cases hv:vis (t+1) s 0
  ·obtain⟨b1,b2,b3,b4,b5,_⟩:=h.yes hv
   exact⟨b3,by omega,by rw[b2];exact b5⟩
  ·obtain⟨d1,d2,d3⟩:=h.no hv
   obtain⟨b1,b2,b3⟩:=hP.fnd (d1.symm.trans hfd)
   rw[d2,d3]
   exact⟨b1,by omega,b3⟩
 ·refine⟨hfd,?_⟩
  rcases Nat.lt_or_ge t u with hu|hu
  ·have hut:u=t+1:=by omega
   subst hut
   rcases Nat.lt_or_ge t i with hi|hi
   ·omega
   ·by_cases hc:fd0=true/\a0<i
    ·have:=ha0 hc.1
     omega
    ·obtain⟨x,f,n,c1,c2,c3,c4,c5,c6⟩:=key i 0 h1 hi h3 (fun hf=>Nat.le_of_not_lt (fun hlt=>hc ⟨hf,hlt⟩))
     rcases c6 with c6|c6
     ·obtain⟨b1,b2⟩:=h.dn x c6 f n c3 c4 c5
      have:=(h.yes b1).2.1
      omega
     ·have:=hk x c6
      omega
  ·obtain⟨b1,b2,b3⟩:=hP.bst i u h1 hu h3
   by_cases hv:vis (t+1) s 0
   ·obtain⟨c1,c2,c3,c4,c5,c6,_⟩:=h.yes hv
    have:=c6 b1
    omega
   ·obtain⟨d1,d2,d3⟩:=h.no hv
    rw[d2,d3]
    exact⟨b2,b3⟩
theorem Mid.more{L0:List (Nat×Nat)}{fd0:Bool}{a0 b0:Nat}{s s':Sx}(h:Mid l D e f0 t L0 fd0 a0 b0 L0.length s)(hP:Plc l D e f0 t L0 fd0 a0 b0)(hfd:s.fd=false)(hf0:f0<=t+1)(hu:∀q,D[q]?=some .done->q=0)(h0:D[0]?=some .done)(k1:Ent l D (t+1) (t+1) e (fun _=>False) s s'):
  Plc l D e f0 (t+1) s'.li s'.fd s'.a s'.b/\(∀(q v:Nat),s'.sn[q]?=some v->v<=t+2)/\s'.li.length<=s'.sn.count (t+2):=by
 have nv:¬vis (t+1) s 0:=fun hv=>by have:=(h.yes hv).1;rw[hfd]at this;cases this
 obtain⟨d1,d2,d3⟩:=h.no nv
 have hfd0:fd0=false:=d1.symm.trans hfd
 have hroot:vis (t+1) s' e:=by rcases k1.root with h1|h1;exact h1;exact h1.elim
 have hshut:∀q y,vis (t+1) s' q->Eps l D (t+1) q y->vis (t+1) s' y:=fun q y h1 h2=>by
  by_cases hv:vis (t+1) s q
  ·exact k1.mono _ (h.shut q y hv h2)
  ·rcases k1.shut q y hv h1 h2 with h3|h3
   ·exact h3
   ·exact h3.elim
 obtain⟨X,eX,hX,hY⟩:=k1.li
 have nofd:∀i,f0<=i->i<=t->¬Rch l D e i 0 (t+1):=fun i h1 h2 hr=>by
  obtain⟨q0,f,n,c1,c2,_,c4,c5⟩:=hr.split t rfl h2
  obtain⟨i',c6,c7⟩:=hP.cmp i q0 h1 c1 ⟨f,n,c2⟩ (fun hf=>by rw[hfd0]at hf;cases hf)
  exact nv (h.dn (q0,i') (by rw[List.take_length];exact c7) f n c2 c4 c5).1
 refine⟨⟨fun x hx=>?_,fun i q h1 h2 h3 h4=>?_,?_,fun hf=>?_,fun i u h1 h2 h3=>?_,fun hf=>?_⟩,fun q v hq=>?_,?_⟩
 ·rw[eX]at hx
  rcases List.mem_append.1 hx with hx|hx
  ·obtain⟨b1,b2,b3,b4⟩:=h.snd x hx
   exact⟨b1,by omega,b3,b4⟩
  ·obtain⟨a1,a2,a3,a4⟩:=hX x hx
   rw[a1]
   exact⟨hf0,Nat.le_refl _,k1.snd _ a4 a3,a2⟩
 ·rcases Nat.lt_or_ge t i with hi|hi
  ·have:=h2.le
   have hit:i=t+1:=by omega
   subst hit
   have hv:=shut_rch hshut h2 rfl hroot
   by_cases hv2:vis (t+1) s q
   ·obtain⟨i',hi'⟩:=h.lst q h3 hv2
    exact⟨i',by have:=(h.snd _ hi').2.1;simp at this;omega,by rw[eX];exact List.mem_append_left _ hi'⟩
   ·exact⟨t+1,Nat.le_refl _,by rw[eX];exact List.mem_append_right _ (hY q hv2 hv h3)⟩
  ·obtain⟨q0,f,n,c1,c2,_,c4,c5⟩:=h2.split t rfl hi
   obtain⟨i',c6,c7⟩:=hP.cmp i q0 h1 c1 ⟨f,n,c2⟩ (fun hf=>by rw[hfd0]at hf;cases hf)
   obtain⟨i2,b1,b2⟩:=(h.cmp (q0,i') (by rw[List.take_length];exact c7) f n c2 c4).2 q c5 h3
   exact⟨i2,by simp at b1;omega,by rw[eX];exact List.mem_append_left _ b2⟩
 ·rw[eX,List.pairwise_append]
  refine⟨h.srt,?_,fun y hy z hz=>?_⟩
  ·refine List.Pairwise.imp_of_mem (R:=fun _ _=>True) (fun {a b} ha hb _=>?_) (by simp[List.pairwise_iff_forall_sublist])
   rw[(hX a ha).1,(hX b hb).1]
   exact Nat.le_refl _
  ·rw[(hX z hz).1]
   have:=(h.snd y hy).2.1
   omega
 ·rcases k1.fd with⟨c1,_⟩|⟨c1,c2,c3,q,c4,c5,c6⟩
  ·rw[c1,hfd]at hf;cases hf
  ·rw[hu q c6]at c4 c5
   rw[c2,c3]
   exact⟨hf0,Nat.le_refl _,k1.snd _ c4 c5⟩
 ·rcases Nat.lt_or_ge t u with hut|hut
  ·have:u=t+1:=by omega
   subst this
   rcases Nat.lt_or_ge t i with hi|hi
   ·have:=h3.le
    have hit:i=t+1:=by omega
    subst hit
    have hv:=shut_rch hshut h3 rfl hroot
    rcases k1.fd with⟨_,_,_,c4⟩|⟨c1,c2,c3,_⟩
    ·exact absurd h0 (c4 0 nv hv)
    ·rw[c2,c3]
     exact⟨c1,Nat.le_refl _,fun _=>Nat.le_refl _⟩
   ·exact absurd h3 (nofd i h1 hi)
  ·have:=(hP.bst i u h1 hut h3).1
   rw[hfd0]at this;cases this
 ·rcases k1.fd with⟨_,c2,c3,_⟩|⟨c1,_⟩
  ·rw[c2,c3,d2,d3]
   exact hP.zer hfd0
  ·rw[c1]at hf;cases hf
 ·rcases k1.keep q with h1|h1
  ·unfold vis at h1;rw[hq]at h1;cases h1;exact Nat.le_refl _
  ·rw[h1]at hq;exact h.hi q v hq
 ·have h1:=h.cnt
  have h2:=k1.cnt
  rw[show t+1+1=t+2 from rfl]at h2
  omega
theorem plc_first{s s':Sx}(hz:∀(q v:Nat),s.sn[q]?=some v->v=0)(hL:s.li= [])(h1:s.fd=false)(h2:s.a=0)(h3:s.b=0)(hu:∀q,D[q]?=some .done->q=0)(h0:D[0]?=some .done)(k1:Ent l D f0 f0 e (fun _=>False) s s'):
  Plc l D e f0 f0 s'.li s'.fd s'.a s'.b/\(∀(q v:Nat),s'.sn[q]?=some v->v<=f0+1)/\s'.li.length<=s'.sn.count (f0+1):=by
 have nv:∀q,¬vis f0 s q:=fun q h=>by have:=hz q _ h;omega
 have hroot:vis f0 s' e:=by rcases k1.root with h1|h1;exact h1;exact h1.elim
 have hshut:∀q y,vis f0 s' q->Eps l D f0 q y->vis f0 s' y:=fun q y h1 h2=>by
  rcases k1.shut q y (nv q) h1 h2 with h3|h3
  ·exact h3
  ·exact h3.elim
 obtain⟨X,eX,hX,hY⟩:=k1.li
 rw[hL,List.nil_append]at eX
 refine⟨⟨fun x hx=>?_,fun i q g1 g2 g3 g4=>?_,?_,fun hf=>?_,fun i u g1 g2 g3=>?_,fun hf=>?_⟩,fun q v hq=>?_,?_⟩
 ·rw[eX]at hx
  obtain⟨a1,a2,a3,a4⟩:=hX x hx
  rw[a1]
  exact⟨Nat.le_refl _,Nat.le_refl _,k1.snd _ a4 a3,a2⟩
 ·have:=g2.le
  have hi:i=f0:=by omega
  subst hi
  have hv:=shut_rch hshut g2 rfl hroot
  exact⟨i,Nat.le_refl _,by rw[eX];exact hY q (nv q) hv g3⟩
 ·rw[eX]
  refine List.Pairwise.imp_of_mem (R:=fun _ _=>True) (fun {a b} ha hb _=>?_) (by simp[List.pairwise_iff_forall_sublist])
  rw[(hX a ha).1,(hX b hb).1]
  exact Nat.le_refl _
 ·rcases k1.fd with⟨c1,_⟩|⟨c1,c2,c3,q,c4,c5,c6⟩
  ·rw[c1,h1]at hf;cases hf
  ·rw[hu q c6]at c4 c5
   rw[c2,c3]
   exact⟨Nat.le_refl _,Nat.le_refl _,k1.snd _ c4 c5⟩
 ·have:=g3.le
  have hi:i=f0:=by omega
  have hui:u=f0:=by omega
  subst hi hui
  have hv:=shut_rch hshut g3 rfl hroot
  rcases k1.fd with⟨_,_,_,c4⟩|⟨c1,c2,c3,_⟩
  ·exact absurd h0 (c4 0 (nv 0) hv)
  ·rw[c2,c3]
   exact⟨c1,Nat.le_refl _,fun _=>Nat.le_refl _⟩
 ·rcases k1.fd with⟨_,c2,c3,_⟩|⟨c1,_⟩
  ·rw[c2,c3]
   exact⟨h2,h3⟩
  ·rw[c1]at hf;cases hf
 ·rcases k1.keep q with g1|g1
  ·unfold vis at g1;rw[hq]at g1;cases g1;exact Nat.le_refl _
  ·rw[g1]at hq;have:=hz q v hq;omega
 ·have g2:=k1.cnt
  rw[hL]at g2
  simp only[List.length_nil,Nat.zero_add]at g2
  omega
def Best(n:Nat)(M:Nat->Nat->Prop)(f0:Nat)(fd:Bool)(a b:Nat):Prop:=
 (fd=true->f0<=a/\a<=n/\M a b/\∀i j,f0<=i->i<=n->M i j->a<=i/\(i=a->j<=b))/\(fd=false->a=0/\b=0/\∀i j,f0<=i->i<=n->¬M i j)
theorem Plc.best{L:List (Nat×Nat)}{fd:Bool}{a b:Nat}(h:Plc l D e f0 t L fd a b)(ht:t<=l.length)(hend:t=l.length\/(L= []/\fd=true))(hu:∀q,D[q]?=some .done->q=0)(h0:D[0]?=some .done):Best l.length (fun i j=>Run l D e i j) f0 fd a b:=by
 refine⟨fun hf=>?_,fun hf=>?_⟩
 ·obtain⟨h1,h2,h3⟩:=h.fnd hf
  have h3le:=h3.le
  refine⟨h1,by omega,(run_iff h0 hu).2 h3,fun i j g1 g2 g3=>?_⟩
  have g3:=(run_iff h0 hu).1 g3
  have gl:=g3.le
  have gh:=g3.hi g2
  rcases Nat.lt_or_ge t j with hj|hj
  ·rcases hend with he|⟨he,_⟩
   ·omega
   ·rcases Nat.lt_or_ge t i with hi|hi
    ·omega
    ·by_cases hia:i<=a
     ·exfalso
      --a way that goes beyond place t passes a step that waits for a byte there
      have pass:∀ {q u},Rch l D e i q u->t<u->∃q0,Rch l D e i q0 t/\OneAt D q0:=by
       intro q u hr
       induction hr with
       |refl=>intro h;omega
       |eps _ _ ih=>exact ih
       |byte r1 r2 r3 r4 ih=>
        intro h
        rename_i u' _ _
        by_cases hc:t<u'
        ·exact ih hc
        ·obtain rfl:t=u':=by omega
         exact⟨_,r1,_,_,r2⟩
      obtain⟨q0,p1,p2⟩:=pass g3 hj
      obtain⟨i',_,p3⟩:=h.cmp i q0 g1 p1 p2 (fun _=>hia)
      rw[he]at p3
      simp at p3
     ·omega
  ·exact(h.bst i j g1 hj g3).2
 ·obtain⟨z1,z2⟩:=h.zer hf
  refine⟨z1,z2,fun i j g1 g2 g3=>?_⟩
  have g3:=(run_iff h0 hu).1 g3
  rcases hend with he|⟨_,he⟩
  ·have:=(h.bst i j g1 (by have:=g3.hi g2;omega) g3).1
   rw[hf]at this;cases this
  ·rw[hf]at he;cases he
theorem Best.congr{n:Nat}{M N:Nat->Nat->Prop}{f0:Nat}{fd:Bool}{a b:Nat}(h:Best n M f0 fd a b)(e:∀i j,M i j↔N i j):Best n N f0 fd a b:=by
 have:M=N:=by funext i j;exact propext (e i j)
 rw[<-this];exact h
theorem Best.uniq{n:Nat}{M:Nat->Nat->Prop}{f0:Nat}{fd fd':Bool}{a b a' b':Nat}(h:Best n M f0 fd a b)(h':Best n M f0 fd' a' b'):fd=fd'/\a=a'/\b=b':=by
 cases hf:fd
 ·obtain⟨h1,h2,h3⟩:=h.2 hf
  cases hf':fd'
  ·obtain⟨g1,g2,_⟩:=h'.2 hf'
   exact⟨rfl,by omega,by omega⟩
  ·obtain⟨g1,g2,g3,_⟩:=h'.1 hf'
   exact absurd g3 (h3 a' b' g1 g2)
 ·obtain⟨h1,h2,h3,h4⟩:=h.1 hf
  cases hf':fd'
  ·obtain⟨_,_,g3⟩:=h'.2 hf'
   exact absurd h3 (g3 a b h1 h2)
  ·obtain⟨g1,g2,g3,g4⟩:=h'.1 hf'
   have r1:=h4 a' b' g1 g2 g3
   have r2:=g4 a b h1 h2 h3
   have ea:a=a':=by omega
   have:=r1.2 ea.symm
   have:=r2.2 ea
   exact⟨rfl,ea,by omega⟩
end Go.Proofs.YtldiemjlpnachaaGreatDoor
set_option maxHeartbeats 800000
namespace Go.Proofs.YtldiemjlpnachaaGreatDoor
open Go.RowKit
theorem has_word{z:Int}{f:Nat->Bool}{c:Nat}(h:Word z f (c/32)):(bits .and .u32 z (2^(c%32)%4294967296) !=0)=f c:=by
 have hp:2^(c%32)<4294967296:=Nat.lt_of_lt_of_eq (Nat.pow_lt_pow_right (by omega) (show c%32<32 by omega)) (by decide)
 have e0:(2:Int)^(c%32)=((2^(c%32):Nat):Int):=by rw[Int.natCast_pow];rfl
 have e:(2:Int)^(c%32)%4294967296=((2^(c%32):Nat):Int):=by
  rw[e0]
  generalize 2^(c%32)=P at hp
  omega
 rw[e,u32_and _ _ h.1 h.2.1 (by omega) (by generalize 2^(c%32)=P at hp;omega),Int.toNat_natCast,<-h.bit]
 cases hb:z.toNat.testBit (c%32)
 ·have:z.toNat&&&2^(c%32)=0:=by
   apply Nat.eq_of_testBit_eq
   intro j
   rw[Nat.testBit_and,Nat.testBit_two_pow,Nat.zero_testBit]
   by_cases hj:c%32=j
   ·rw[<-hj,hb];rfl
   ·simp[hj]
  rw[this];rfl
 ·have:z.toNat&&&2^(c%32)≠0:=by
   intro h0
   have:=congrArg (fun x=>x.testBit (c%32)) h0
   simp only[Nat.testBit_and,Nat.testBit_two_pow,Nat.zero_testBit,hb]at this
   simp at this
  simp only[bne_iff_ne,ne_eq]
  omega
theorem has_any(B o:Nat)(c:Nat)(f:Nat->Bool)(w:World)(hc:c<256)(hs:SetIs w B o f):
  Calls Tryz.prog 93 #[.pointer (some ⟨B,o,none⟩),.int .u8 c] w fun e w'=>e= .returned (.bool (f c))/\w'=w:=by
 obtain⟨z,hz,hw⟩:=hs (c/32) (by omega)
 have Hw:=hd hw
 clear hw hs
 have hq0:(0:Int)<=(c:Int)/32:=by omega
 have hq1:(c:Int)/32<8:=by omega
 have hr0:(0:Int)<=(c:Int)%32:=by omega
 have hr1:(c:Int)%32<32:=by omega
 go_enter Tryz.func93,Tryz.ntmps93
 go_wp2
 go_ret
 exact⟨ret_bool (has_word Hw.out),rfl⟩
structure Bl(w w':World)(Bs:List Nat):Prop where
 os:w'.os=w.os
 tape:w'.tape=w.tape
 output:w'.output=w.output
 size:w.heap.size<=w'.heap.size
 block:∀k,k<w.heap.size->k ∉ Bs->w'.heap[k]?=w.heap[k]?
theorem Bl.refl(w:World)(Bs:List Nat):Bl w w Bs:=⟨rfl,rfl,rfl,Nat.le_refl _,fun _ _ _=>rfl⟩
theorem Bl.trans{a b c:World}{Bs:List Nat}(h:Bl a b Bs)(k:Bl b c Bs):Bl a c Bs:=⟨k.os.trans h.os,k.tape.trans h.tape,k.output.trans h.output,Nat.le_trans h.size k.size,fun i hl hi=>(k.block i (Nat.lt_of_lt_of_le hl h.size) hi).trans (h.block i hl hi)⟩
theorem Bl.set{a w:World}{Bs:List Nat}(h:Bl a w Bs)(p:Addr)(hp:p.block∈Bs)(v:Value):Bl a (w.setCell p v) Bs:=
 ⟨h.os,h.tape,h.output,by simp[World.setCell];exact h.size,fun k hl hk=>by rw[Below.heap_setCell _ _ _ _ (by rintro rfl;exact hk hp)];exact h.block k hl hk⟩
theorem Bl.alloc{a w:World}{Bs:List Nat}(h:Bl a w Bs)(o:Obj):Bl a (w.alloc o) Bs:=
 ⟨h.os,h.tape,h.output,by simp;have:=h.size;omega,fun k hl hk=>by rw[Below.heap_alloc _ _ _ (by have:=h.size;omega)];exact h.block k hl hk⟩
theorem Bl.mono{a w:World}{Bs Cs:List Nat}(h:Bl a w Bs)(hs:∀k∈Bs,k∈Cs):Bl a w Cs:=⟨h.os,h.tape,h.output,h.size,fun k hl hk=>h.block k hl (fun hk'=>hk (hs k hk'))⟩
theorem Bl.drew{a w:World}{Bs:List Nat}(h:Bl a w Bs):Bl a w.drew Bs:=⟨h.os,h.tape,h.output,h.size,h.block⟩
theorem Bl.drewN{a w:World}{Bs:List Nat}{n:Nat}(h:Bl a w Bs):Bl a (w.drewN n) Bs:=⟨h.os,h.tape,h.output,h.size,h.block⟩
theorem Bl.cell{w w':World}{Bs:List Nat}(h:Bl w w' Bs){p:Addr}{v:Value}(hp:p.block ∉ Bs)(hv:w.cell? p=some v):w'.cell? p=some v:=(World.cell?_of_block (h.block p.block (World.block_lt_of_cell? w p hv) hp)).trans hv
theorem Bl.frozen{w w':World}{Bs:List Nat}(h:Bl w w' Bs){p:Addr}{v:Value}{b:Bool}(hp:p.block ∉ Bs)(hv:w.cell? p=some v)(hf:w.frozen? p=b):w'.frozen? p=b:=(World.frozen?_of_block (h.block p.block (World.block_lt_of_cell? w p hv) hp)).trans hf
theorem Bl.below{w w':World}{Bs:List Nat}{C:Nat}(h:Bl w w' Bs)(hC:∀k∈Bs,C<=k)(hl:C<=w.heap.size):Below C w w':=⟨h.os,h.tape,h.output,h.size,fun k hk=>h.block k (by omega) (fun hk'=>by have:=hC k hk';omega)⟩
structure Ways(w:World)(A LA sz:Nat)(L:List (Nat×Nat)):Prop where
 a0:w.cell? ⟨A,0,none⟩=some (.slice (some ⟨LA,0,none⟩) sz sz)
 a1:w.cell? ⟨A,1,none⟩=some (.int .i64 L.length)
 f1:w.frozen? ⟨A,1,none⟩=false
 el:∀i x,L[i]?=some x->w.cell? ⟨LA,i*2,none⟩=some (.int .i64 x.1)/\w.cell? ⟨LA,i*2+1,none⟩=some (.int .i64 x.2)
 room:∀i,i<sz*2->(∃u,w.cell? ⟨LA,i,none⟩=some u)/\w.frozen? ⟨LA,i,none⟩=false
theorem Ways.bl{w w':World}{A LA sz:Nat}{L:List (Nat×Nat)}{Bs:List Nat}(h:Ways w A LA sz L)(k:Bl w w' Bs)(hA:A ∉ Bs)(hL:LA ∉ Bs):Ways w' A LA sz L:=
 ⟨k.cell (by exact hA) h.a0,k.cell (by exact hA) h.a1,k.frozen (by exact hA) h.a1 h.f1,fun i x hx=>⟨k.cell (by exact hL) (h.el i x hx).1,k.cell (by exact hL) (h.el i x hx).2⟩,
  fun i hi=>by obtain⟨⟨u,hu⟩,hf⟩:=h.room i hi;exact⟨⟨u,k.cell (by exact hL) hu⟩,k.frozen (by exact hL) hu hf⟩⟩
theorem Ways.alloc{w:World}{A LA sz:Nat}{L:List (Nat×Nat)}(h:Ways w A LA sz L)(o:Obj):Ways (w.alloc o) A LA sz L:=h.bl ((Bl.refl w []).alloc o) (by simp) (by simp)
theorem Ways.drew{w:World}{A LA sz:Nat}{L:List (Nat×Nat)}(h:Ways w A LA sz L):Ways w.drew A LA sz L:=⟨h.a0,h.a1,h.f1,h.el,h.room⟩
theorem Ways.drewN{w:World}{A LA sz n:Nat}{L:List (Nat×Nat)}(h:Ways w A LA sz L):Ways (w.drewN n) A LA sz L:=⟨h.a0,h.a1,h.f1,h.el,h.room⟩
theorem Ways.add{w:World}{A LA sz:Nat}{L:List (Nat×Nat)}(h:Ways w A LA sz L)(hAL:A≠LA)(hn:L.length<sz)(p i:Nat)(n:Int)(hni:n=(L.length+1:Nat)):
  Ways (((w.setCell ⟨LA,L.length*2,none⟩ (.int .i64 p)).setCell ⟨LA,L.length*2+1,none⟩ (.int .i64 i)).setCell ⟨A,1,none⟩ (.int .i64 n)) A LA sz (L++ [(p,i)]):=by
 subst hni
 have other:∀(U:World) (b x y:Nat) (v:Value),x≠y->(U.setCell ⟨b,x,none⟩ v).cell? ⟨b,y,none⟩=U.cell? ⟨b,y,none⟩:=fun U b x y v hxy=>World.cell?_setCell_other _ _ _ _ (by rintro e;cases e;exact hxy rfl)
 have far:∀(U:World) (b c x y:Nat) (v:Value),b≠c->(U.setCell ⟨b,x,none⟩ v).cell? ⟨c,y,none⟩=U.cell? ⟨c,y,none⟩:=fun U b c x y v hxy=>World.cell?_setCell_far _ _ _ _ hxy
 obtain⟨u0,hu0⟩:=(h.room (L.length*2) (by omega)).1
 obtain⟨u1,hu1⟩:=(h.room (L.length*2+1) (by omega)).1
 have c0:((w.setCell ⟨LA,L.length*2,none⟩ (.int .i64 p)).setCell ⟨LA,L.length*2+1,none⟩ (.int .i64 i)).cell? ⟨LA,L.length*2,none⟩=some (.int .i64 p):=by
  rw[other _ _ _ _ _ (by omega)]
  exact World.cell?_setCell_same _ _ _ hu0
 have c1:((w.setCell ⟨LA,L.length*2,none⟩ (.int .i64 p)).setCell ⟨LA,L.length*2+1,none⟩ (.int .i64 i)).cell? ⟨LA,L.length*2+1,none⟩=some (.int .i64 i):=World.cell?_setCell_same _ _ _ (by rw[other _ _ _ _ _ (by omega)];exact hu1)
 refine⟨?_,?_,by simpa using h.f1,fun k x hx=>?_,fun k hk=>?_⟩
 ·rw[other _ _ _ _ _ (by omega),far _ _ _ _ _ _ (Ne.symm hAL),far _ _ _ _ _ _ (Ne.symm hAL)];exact h.a0
 ·rw[List.length_append,List.length_singleton]
  exact World.cell?_setCell_same _ _ _ (by rw[far _ _ _ _ _ _ (Ne.symm hAL),far _ _ _ _ _ _ (Ne.symm hAL)];exact h.a1)
 ·rw[far _ _ _ _ _ _ hAL,far _ _ _ _ _ _ hAL]
  rcases Nat.lt_or_ge k L.length with hkl|hkl
  ·rw[List.getElem?_append_left hkl]at hx
   obtain⟨e1,e2⟩:=h.el k x hx
   refine⟨?_,?_⟩
   ·rw[other _ _ _ _ _ (by omega),other _ _ _ _ _ (by omega)];exact e1
   ·rw[other _ _ _ _ _ (by omega),other _ _ _ _ _ (by omega)];exact e2
  ·rw[List.getElem?_append_right hkl]at hx
   have hk0:k=L.length:=by
    have:=(List.getElem?_eq_some_iff.1 hx).1
    simp at this
    omega
   subst hk0
   simp at hx
   subst hx
   exact⟨c0,c1⟩
 ·obtain⟨⟨u,hu⟩,hf⟩:=h.room k hk
  refine⟨?_,by simpa using hf⟩
  rw[far _ _ _ _ _ _ hAL]
  by_cases e1:k=L.length*2+1
  ·subst e1;exact⟨_,c1⟩
  ·by_cases e0:k=L.length*2
   ·subst e0;exact⟨_,c0⟩
   ·exact⟨u,by rw[other _ _ _ _ _ (by omega),other _ _ _ _ _ (by omega)];exact hu⟩
theorem Ways.clear{w:World}{A LA sz:Nat}{L:List (Nat×Nat)}(h:Ways w A LA sz L)(hAL:A≠LA):Ways (w.setCell ⟨A,1,none⟩ (.int .i64 0)) A LA sz []:=by
 have far:∀(U:World) (b c x y:Nat) (v:Value),b≠c->(U.setCell ⟨b,x,none⟩ v).cell? ⟨c,y,none⟩=U.cell? ⟨c,y,none⟩:=fun U b c x y v hxy=>World.cell?_setCell_far _ _ _ _ hxy
 refine⟨by rw[World.cell?_setCell_other _ _ _ _ (by simp)];exact h.a0,by exact World.cell?_setCell_same _ _ _ h.a1,by simpa using h.f1,fun i x hx=>by simp at hx,fun k hk=>?_⟩
 obtain⟨⟨u,hu⟩,hf⟩:=h.room k hk
 exact⟨⟨u,by rw[far _ _ _ _ _ _ hAL];exact hu⟩,by simpa using hf⟩
theorem wput_any(A LA sz:Nat)(L:List (Nat×Nat))(p i:Nat)(w:World)(h:Ways w A LA sz L)(hAL:A≠LA)(hn:L.length<sz)(hsz:sz<=1000):
  Calls Tryz.prog 92 #[.pointer (some ⟨A,0,none⟩),.agg #[.int .i64 p,.int .i64 i]] w fun e w'=>e= .returned (.tuple #[])/\Ways w' A LA sz (L++ [(p,i)])/\Bl w w' [A,LA]:=by
 have a0:=h.a0
 have a1:=h.a1
 have f1:=h.f1
 obtain⟨⟨u0,hu0⟩,g0⟩:=h.room (L.length*2) (by omega)
 obtain⟨⟨u1,hu1⟩,g1⟩:=h.room (L.length*2+1) (by omega)
 have hn0:(0:Int)<=(L.length:Int):=by omega
 have hn1:(L.length:Int)<(sz:Int):=by omega
 have H:=hd h
 clear h
 go_enter Tryz.func92,Tryz.ntmps92
 go_wp2
 have HW:=hd (H.out.alloc (.cells #[.int .i64 p,.int .i64 i] 186))
 have HB:=hd ((Bl.refl w [A,LA]).alloc (.cells #[.int .i64 p,.int .i64 i] 186))
 have hT:(w.alloc (.cells #[.int .i64 p,.int .i64 i] 186)).cell? ⟨w.heap.size,0,none⟩=some (.int .i64 p)/\(w.alloc (.cells #[.int .i64 p,.int .i64 i] 186)).cell? ⟨w.heap.size,1,none⟩=some (.int .i64 i):=⟨by simp,by simp⟩
 have hlA:=World.block_lt_of_cell? w _ a0
 have hlL:=World.block_lt_of_cell? w _ hu0
 generalize w.alloc (.cells #[.int .i64 p,.int .i64 i] 186)=W at HW HB hT ⊢
 generalize w.heap.size=T at hT hlA hlL ⊢
 obtain⟨t0,t1⟩:=hT
 clear a0 a1 f1 hu0 g0 hu1 g1
 have a0:=HW.out.a0
 have a1:=HW.out.a1
 have f1:=HW.out.f1
 obtain⟨⟨u0,hu0⟩,g0⟩:=HW.out.room (L.length*2) (by omega)
 obtain⟨⟨u1,hu1⟩,g1⟩:=HW.out.room (L.length*2+1) (by omega)
 go_quiet (fail)
 go_wp2
 go_region
 go_wp2
 go_end0
 exact⟨rfl,HW.out.drewN.add hAL hn p i _ (by omega),((HB.out.drewN.set _ (by simp) _).set _ (by simp) _).set _ (by simp) _⟩
structure Cfg where
 S:Nat
 SB:Nat
 P:Nat
 o:Nat
 G:Nat
 cap:Nat
 e:Nat
 ln:ByteArray
 D:List Stp
def StepAt(w:World)(G q:Nat):Stp->Prop
 | .done=>w.cell? ⟨G,q*14,none⟩=some (.int .i64 0)
 | .one f n=>w.cell? ⟨G,q*14,none⟩=some (.int .i64 1)/\w.cell? ⟨G,q*14+10,none⟩=some (.int .i64 n)/\SetIs w G (q*14+1) f
 | .beg n=>w.cell? ⟨G,q*14,none⟩=some (.int .i64 2)/\w.cell? ⟨G,q*14+10,none⟩=some (.int .i64 n)
 | .fin n=>w.cell? ⟨G,q*14,none⟩=some (.int .i64 3)/\w.cell? ⟨G,q*14+10,none⟩=some (.int .i64 n)
 | .fork n o=>w.cell? ⟨G,q*14,none⟩=some (.int .i64 4)/\w.cell? ⟨G,q*14+10,none⟩=some (.int .i64 n)/\w.cell? ⟨G,q*14+11,none⟩=some (.int .i64 o)
theorem StepAt.bl{w w':World}{G q:Nat}{st:Stp}{Bs:List Nat}(h:StepAt w G q st)(k:Bl w w' Bs)(hG:G ∉ Bs):StepAt w' G q st:=by
 cases st with
 |done=>exact k.cell (by exact hG) h
 |one f n=>exact⟨k.cell (by exact hG) h.1,k.cell (by exact hG) h.2.1,fun i hi=>by obtain⟨z,hz,hw⟩:=h.2.2 i hi;exact⟨z,k.cell (by exact hG) hz,hw⟩⟩
 |beg n=>exact⟨k.cell (by exact hG) h.1,k.cell (by exact hG) h.2⟩
 |fin n=>exact⟨k.cell (by exact hG) h.1,k.cell (by exact hG) h.2⟩
 |fork n o=>exact⟨k.cell (by exact hG) h.1,k.cell (by exact hG) h.2.1,k.cell (by exact hG) h.2.2⟩
structure Sh(w:World)(Γ:Cfg)(t:Nat)(sn:List Nat)(fd:Bool)(a b:Nat):Prop where
 s0:w.cell? ⟨Γ.S,0,none⟩=some (.pointer (some ⟨Γ.P,Γ.o,none⟩))
 s1:w.cell? ⟨Γ.S,1,none⟩=some (.string Γ.ln)
 s2:w.cell? ⟨Γ.S,2,none⟩=some (.int .i64 t)
 s3:w.cell? ⟨Γ.S,3,none⟩=some (.slice (some ⟨Γ.SB,0,none⟩) Γ.D.length Γ.D.length)
 s4:w.cell? ⟨Γ.S,4,none⟩=some (.bool fd)
 s5:w.cell? ⟨Γ.S,5,none⟩=some (.int .i64 a)
 s6:w.cell? ⟨Γ.S,6,none⟩=some (.int .i64 b)
 f2:w.frozen? ⟨Γ.S,2,none⟩=false
 f4:w.frozen? ⟨Γ.S,4,none⟩=false
 f5:w.frozen? ⟨Γ.S,5,none⟩=false
 f6:w.frozen? ⟨Γ.S,6,none⟩=false
 snl:sn.length=Γ.D.length
 sn:∀(i v:Nat),sn[i]?=some v->w.cell? ⟨Γ.SB,i,none⟩=some (.int .i64 v)/\w.frozen? ⟨Γ.SB,i,none⟩=false
 p0:w.cell? ⟨Γ.P,Γ.o,none⟩=some (.slice (some ⟨Γ.G,0,none⟩) Γ.D.length Γ.cap)
 p1:w.cell? ⟨Γ.P,Γ.o+1,none⟩=some (.int .i64 Γ.e)
 st:∀q st,Γ.D[q]?=some st->StepAt w Γ.G q st
theorem Sh.drew{w:World}{Γ:Cfg}{t:Nat}{sn:List Nat}{fd:Bool}{a b:Nat}(h:Sh w Γ t sn fd a b):Sh w.drew Γ t sn fd a b:=⟨h.s0,h.s1,h.s2,h.s3,h.s4,h.s5,h.s6,h.f2,h.f4,h.f5,h.f6,h.snl,h.sn,h.p0,h.p1,fun q st hq=>(h.st q st hq).bl (Bl.refl _ []).drew (by simp)⟩
theorem Sh.drewN{w:World}{Γ:Cfg}{t n:Nat}{sn:List Nat}{fd:Bool}{a b:Nat}(h:Sh w Γ t sn fd a b):Sh (w.drewN n) Γ t sn fd a b:=⟨h.s0,h.s1,h.s2,h.s3,h.s4,h.s5,h.s6,h.f2,h.f4,h.f5,h.f6,h.snl,h.sn,h.p0,h.p1,fun q st hq=>(h.st q st hq).bl (Bl.refl _ []).drewN (by simp)⟩
theorem Sh.bl{w w':World}{Γ:Cfg}{t:Nat}{sn:List Nat}{fd:Bool}{a b:Nat}{Bs:List Nat}(h:Sh w Γ t sn fd a b)(k:Bl w w' Bs)(h1:Γ.S ∉ Bs)(h2:Γ.SB ∉ Bs)(h3:Γ.P ∉ Bs)(h4:Γ.G ∉ Bs):Sh w' Γ t sn fd a b:=
 ⟨k.cell (by exact h1) h.s0,k.cell (by exact h1) h.s1,k.cell (by exact h1) h.s2,k.cell (by exact h1) h.s3,k.cell (by exact h1) h.s4,k.cell (by exact h1) h.s5,k.cell (by exact h1) h.s6,k.frozen (by exact h1) h.s2 h.f2,k.frozen (by exact h1) h.s4 h.f4,k.frozen (by exact h1) h.s5 h.f5,k.frozen (by exact h1) h.s6 h.f6,h.snl,
  fun i v hv=>⟨k.cell (by exact h2) (h.sn i v hv).1,k.frozen (by exact h2) (h.sn i v hv).1 (h.sn i v hv).2⟩,k.cell (by exact h3) h.p0,k.cell (by exact h3) h.p1,fun q st hq=>(h.st q st hq).bl k (by exact h4)⟩
structure Apt(Γ:Cfg):Prop where
 n1:Γ.S≠Γ.SB
 n2:Γ.P≠Γ.S
 n3:Γ.P≠Γ.SB
 n4:Γ.G≠Γ.S
 n5:Γ.G≠Γ.SB
theorem ne_set{w:World}{b x y:Nat}{v:Value}(h:x≠y):(w.setCell ⟨b,x,none⟩ v).cell? ⟨b,y,none⟩=w.cell? ⟨b,y,none⟩:=World.cell?_setCell_other _ _ _ _ (by rintro e;cases e;exact h rfl)
theorem Sh.mark{w:World}{Γ:Cfg}{t q u:Nat}{sn:List Nat}{fd:Bool}{a b:Nat}(h:Sh w Γ t sn fd a b)(hA:Apt Γ)(hq:q<sn.length):Sh (w.setCell ⟨Γ.SB,q,none⟩ (.int .i64 u)) Γ t (sn.set q u) fd a b:=by
 have k:=(Bl.refl w [Γ.SB]).set ⟨Γ.SB,q,none⟩ (by simp) (.int .i64 u)
 have n1:=hA.n1
 have n3:=hA.n3
 have n5:=hA.n5
 refine⟨k.cell (by simpa using n1) h.s0,k.cell (by simpa using n1) h.s1,k.cell (by simpa using n1) h.s2,k.cell (by simpa using n1) h.s3,k.cell (by simpa using n1) h.s4,k.cell (by simpa using n1) h.s5,k.cell (by simpa using n1) h.s6,k.frozen (by simpa using n1) h.s2 h.f2,k.frozen (by simpa using n1) h.s4 h.f4,k.frozen (by simpa using n1) h.s5 h.f5,k.frozen (by simpa using n1) h.s6 h.f6,by simpa using h.snl,
  fun i v hv=>?_,k.cell (by simpa using n3) h.p0,k.cell (by simpa using n3) h.p1,fun q st hq=>(h.st q st hq).bl k (by simpa using n5)⟩
 by_cases e:q=i
 ·subst e
  rw[List.getElem?_set_self hq]at hv
  cases hv
  obtain⟨c1,c2⟩:=h.sn q sn[q] (List.getElem?_eq_getElem hq)
  exact⟨World.cell?_setCell_same _ _ _ c1,by simpa using c2⟩
 ·rw[List.getElem?_set_ne e]at hv
  obtain⟨c1,c2⟩:=h.sn i v hv
  exact⟨(ne_set e).trans c1,by simpa using c2⟩
theorem Sh.found{w:World}{Γ:Cfg}{t i:Nat}{sn:List Nat}{fd:Bool}{a b:Nat}(h:Sh w Γ t sn fd a b)(hA:Apt Γ):
  Sh (((w.setCell ⟨Γ.S,4,none⟩ (.bool true)).setCell ⟨Γ.S,5,none⟩ (.int .i64 i)).setCell ⟨Γ.S,6,none⟩ (.int .i64 t)) Γ t sn true i t:=by
 have k:=(((Bl.refl w [Γ.S]).set ⟨Γ.S,4,none⟩ (by simp) (.bool true)).set ⟨Γ.S,5,none⟩ (by simp) (.int .i64 i)).set ⟨Γ.S,6,none⟩ (by simp) (.int .i64 t)
 have n1:=hA.n1
 have n2:=hA.n2
 have n4:=hA.n4
 have cl:∀j,j≠4->j≠5->j≠6->(((w.setCell ⟨Γ.S,4,none⟩ (.bool true)).setCell ⟨Γ.S,5,none⟩ (.int .i64 i)).setCell ⟨Γ.S,6,none⟩ (.int .i64 t)).cell? ⟨Γ.S,j,none⟩=w.cell? ⟨Γ.S,j,none⟩:=fun j h4 h5 h6=>by
  rw[ne_set (Ne.symm h6),ne_set (Ne.symm h5),ne_set (Ne.symm h4)]
 refine⟨(cl 0 (by omega) (by omega) (by omega)).trans h.s0,(cl 1 (by omega) (by omega) (by omega)).trans h.s1,(cl 2 (by omega) (by omega) (by omega)).trans h.s2,(cl 3 (by omega) (by omega) (by omega)).trans h.s3,?_,?_,?_,by simpa using h.f2,by simpa using h.f4,by simpa using h.f5,by simpa using h.f6,h.snl,
  fun j v hv=>⟨k.cell (by simpa using Ne.symm n1) (h.sn j v hv).1,k.frozen (by simpa using Ne.symm n1) (h.sn j v hv).1 (h.sn j v hv).2⟩,k.cell (by simpa using n2) h.p0,k.cell (by simpa using n2) h.p1,fun q st hq=>(h.st q st hq).bl k (by simpa using n4)⟩
 ·rw[ne_set (by omega),ne_set (by omega)]
  exact World.cell?_setCell_same _ _ _ h.s4
 ·rw[ne_set (by omega)]
  exact World.cell?_setCell_same _ _ _ (by rw[ne_set (by omega)];exact h.s5)
 ·exact World.cell?_setCell_same _ _ _ (by rw[ne_set (by omega),ne_set (by omega)];exact h.s6)
theorem Sh.next{w:World}{Γ:Cfg}{t u:Nat}{sn:List Nat}{fd:Bool}{a b:Nat}(h:Sh w Γ t sn fd a b)(hA:Apt Γ):Sh (w.setCell ⟨Γ.S,2,none⟩ (.int .i64 u)) Γ u sn fd a b:=by
 have k:=(Bl.refl w [Γ.S]).set ⟨Γ.S,2,none⟩ (by simp) (.int .i64 u)
 have n1:=hA.n1
 have n2:=hA.n2
 have n4:=hA.n4
 exact⟨(ne_set (by omega)).trans h.s0,(ne_set (by omega)).trans h.s1,World.cell?_setCell_same _ _ _ h.s2,(ne_set (by omega)).trans h.s3,(ne_set (by omega)).trans h.s4,(ne_set (by omega)).trans h.s5,(ne_set (by omega)).trans h.s6,by simpa using h.f2,by simpa using h.f4,by simpa using h.f5,by simpa using h.f6,h.snl,
  fun j v hv=>⟨k.cell (by simpa using Ne.symm n1) (h.sn j v hv).1,k.frozen (by simpa using Ne.symm n1) (h.sn j v hv).1 (h.sn j v hv).2⟩,k.cell (by simpa using n2) h.p0,k.cell (by simpa using n2) h.p1,fun q st hq=>(h.st q st hq).bl k (by simpa using n4)⟩
end Go.Proofs.YtldiemjlpnachaaGreatDoor

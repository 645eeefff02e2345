import Derived.Test.YtldiemjlpnachaaGreatDoorRBrk
import Derived.Test.YtldiemjlpnachaaGreatDoorBks
namespace Go.Proofs.YtldiemjlpnachaaGreatDoor
open Go.RowKit
def opn(σ:St):List Nat:=((σ.outer++ [σ.inner]).map (·.start)).drop 1
structure Sim(σ:St)(τ:RSt):Prop where
 done:∀i,i<10->τ.done i=σ.closed i
 used:∀i,i<10->τ.used i=σ.referred i
 opens:τ.opens=opn σ
 groups:τ.groups=σ.groups
 err:τ.err=0
 g9:σ.groups<=9
 cl:∀n,σ.closed n=true->n<=σ.groups
 rf:σ.refs=cnt σ.referred 10
 r2:σ.refs<=2
 num:σ.inner.number<=σ.groups
 nums:∀r∈σ.outer,r.number<=σ.groups
 ol:σ.outer.length<=σ.groups
def Reach(l:List UInt8)(σ σ':St):Prop:=∃n,n+σ.pos<=σ'.pos/\∀f,goT l (n+f) σ=goT l f σ'
def Fails(l:List UInt8)(σ:St)(e p:Nat):Prop:=∃n,n+σ.pos<l.length/\∀f,(goT l (n+1+f) σ).1=e/\(goT l (n+1+f) σ).2.pos=p
theorem Reach.refl(l:List UInt8)(σ:St):Reach l σ σ:=⟨0,by omega,fun f=>by rw[Nat.zero_add]⟩
theorem Reach.trans{l:List UInt8}{a b c:St}(h:Reach l a b)(k:Reach l b c):Reach l a c:=by
 obtain⟨n,h1,h2⟩:=h
 obtain⟨m,k1,k2⟩:=k
 exact⟨n+m,by omega,fun f=>by rw[Nat.add_assoc,h2,k2]⟩
theorem Reach.step{l:List UInt8}{σ σ':St}(hp:σ.pos<l.length)(h:stepT l σ=(0,σ'))(hlt:σ.pos<σ'.pos):Reach l σ σ':=
 ⟨1,by omega,fun f=>by rw[Nat.add_comm 1 f,goT,if_pos hp,h];rfl⟩
theorem Fails.step{l:List UInt8}{σ σ':St}{e p:Nat}(hp:σ.pos<l.length)(h:stepT l σ=(e,σ'))(he:e≠0)(hpos:σ'.pos=p):Fails l σ e p:=
 ⟨0,by omega,fun f=>by rw[show 0+1+f=f+1 by omega,goT,if_pos hp,h];simp only[if_neg he];exact⟨trivial,hpos⟩⟩
theorem Reach.fails{l:List UInt8}{a b:St}{e p:Nat}(h:Reach l a b)(k:Fails l b e p):Fails l a e p:=by
 obtain⟨n,h1,h2⟩:=h
 obtain⟨m,k1,k2⟩:=k
 exact⟨n+m,by omega,fun f=>by rw[show n+m+1+f=n+(m+1+f) by omega,h2];exact k2 f⟩
def relSz(x y:Int):Prop:=(x<=200/\x=y)\/(200<x/\200<y)
def RelL:List It->List It->Prop
 | [],[]=>True
 |a::r,b::t=>(a.1=b.1/\a.3=b.3)/\relSz a.2 b.2/\1<=a.2/\1<=b.2/\RelL r t
 |_,_=>False
theorem RelL.length:∀ {a:List It} {b:List It},RelL a b->a.length=b.length
 | [],[],_=>rfl
 |_::_,_::_,h=>by rw[List.length_cons,List.length_cons,RelL.length h.2.2.2.2]
 | [],_::_,h=>h.elim
 |_::_,[],h=>h.elim
theorem RelL.trees:∀ {a:List It} {b:List It},RelL a b->a.map (·.3)=b.map (·.3)
 | [],[],_=>rfl
 |_::_,_::_,h=>by rw[List.map_cons,List.map_cons,RelL.trees h.2.2.2.2,h.1.2]
 | [],_::_,h=>h.elim
 |_::_,[],h=>h.elim
theorem RelL.snoc{x:It}{y:It}(h1:x.1=y.1/\x.3=y.3)(h2:relSz x.2 y.2)(h3:1<=x.2)(h4:1<=y.2):∀ {a:List It} {b:List It},RelL a b->RelL (a++ [x]) (b++ [y])
 | [],[],_=>⟨h1,h2,h3,h4,trivial⟩
 |_::_,_::_,h=>⟨h.1,h.2.1,h.2.2.1,h.2.2.2.1,RelL.snoc h1 h2 h3 h4 h.2.2.2.2⟩
 | [],_::_,h=>h.elim
 |_::_,[],h=>h.elim
theorem RelL.unsnoc{y:It}:∀ {a:List It} {b:List It},RelL a (b++ [y])->∃a' x,a=a'++ [x]/\RelL a' b/\(x.1=y.1/\x.3=y.3)/\relSz x.2 y.2/\1<=x.2/\1<=y.2
 | [],[],h=>h.elim
 | [],_::_,h=>h.elim
 | [x],[],h=>⟨[],x,rfl,trivial,h.1,h.2.1,h.2.2.1,h.2.2.2.1⟩
 |_::_::_,[],h=>h.2.2.2.2.elim
 |x::a,z::b,h=>by
  obtain⟨a',w,rfl,k1,k2⟩:=RelL.unsnoc (a:=a) (b:=b) h.2.2.2.2
  exact⟨x::a',w,rfl,⟨h.1,h.2.1,h.2.2.1,h.2.2.2.1,k1⟩,k2⟩
theorem sumSz_nn:∀ {a:List It} {b:List It},RelL a b->0<=sumSz (b.map (·.2))
 | [],[],_=>Int.le_refl 0
 |_::_,_::_,h=>by have:=sumSz_nn h.2.2.2.2;have:=h.2.2.2.1;rw[List.map_cons,sumSz];omega
 | [],_::_,h=>h.elim
 |_::_,[],h=>h.elim
theorem RelL.rowGo:∀ {a:List It} {b:List It} (n m:Int),RelL a b->relSz n m->1<=n->relSz (rowGo (a.map (·.2)) n) (m+sumSz (b.map (·.2)))
 | [],[],n,m,_,h,_=>by simpa[Go.Proofs.YtldiemjlpnachaaGreatDoor.rowGo,sumSz]using h
 |x::a,y::b,n,m,hl,h,hn=>by
  obtain⟨_,hr,hx,hy,hl'⟩:=hl
  rw[List.map_cons,List.map_cons,Go.Proofs.YtldiemjlpnachaaGreatDoor.rowGo,sumSz]
  have:=RelL.rowGo (a:=a) (b:=b) (if 201<n+x.2 then 201 else n+x.2) (m+y.2) hl' (by unfold relSz at*;split<;>omega) (by split<;>omega)
  rw[show m+(y.2+sumSz (b.map (·.2)))=m+y.2+sumSz (b.map (·.2)) by omega]
  exact this
 | [],_::_,_,_,h,_,_=>h.elim
 |_::_,[],_,_,h,_,_=>h.elim
theorem RelL.rowSz{a:List It}{b:List It}(h:RelL a b):relSz (rowSz (a.map (·.2))) (1+sumSz (b.map (·.2))):=
 RelL.rowGo 1 1 h (.inl ⟨by omega,rfl⟩) (by omega)
theorem rowGo_pos:∀(l:List It) (n:Int),1<=n->(∀x∈l,1<=x.2)->1<=rowGo (l.map (·.2)) n
 | [],n,h,_=>h
 |x::r,n,h,hx=>by
  rw[List.map_cons,Go.Proofs.YtldiemjlpnachaaGreatDoor.rowGo]
  have:=hx x (by simp)
  exact rowGo_pos r _ (by split<;>omega) (fun y hy=>hx y (by simp[hy]))
theorem RelL.pos:∀ {a:List It} {b:List It},RelL a b->(∀x∈a,1<=x.2)/\∀y∈b,1<=y.2
 | [],[],_=>⟨by simp,by simp⟩
 |x::a,y::b,h=>by
  have:=RelL.pos h.2.2.2.2
  refine⟨fun z hz=>?_,fun z hz=>?_⟩
  ·rcases List.mem_cons.1 hz with rfl|hz
   ·exact h.2.2.1
   ·exact this.1 z hz
  ·rcases List.mem_cons.1 hz with rfl|hz
   ·exact h.2.2.2.1
   ·exact this.2 z hz
 | [],_::_,h=>h.elim
 |_::_,[],h=>h.elim
theorem relSz_times{x y m n:Int}(h:relSz x y)(hx:1<=x)(hy:1<=y)(hm:0<=m/\m<=20)(hn: -1<=n/\n<=20):relSz (repSz m n x) (tmSz m n y)/\1<=repSz m n x/\1<=tmSz m n y/\tmSz m n y<=21001:=by
 have hc:=cop_bd m n hm hn
 unfold repSz tmSz
 generalize cop m n=c at hc
 have h1:x<=c*x:=by
  have:=Int.mul_le_mul_of_nonneg_right hc.1 (show(0:Int)<=x by omega)
  omega
 have h2:y<=c*y:=by
  have:=Int.mul_le_mul_of_nonneg_right hc.1 (show(0:Int)<=y by omega)
  omega
 have h3:c*y<=21*y:=Int.mul_le_mul_of_nonneg_right hc.2 (by omega)
 rcases h with⟨hx2,rfl⟩|⟨hx2,hy2⟩
 ·unfold relSz
  split<;>split<;>omega
 ·unfold relSz
  split<;>split<;>omega
def Res(l:List UInt8)(σ:St)(j:Nat)(τ':RSt)(K:St->Prop):Prop:=
 (∃σ',Reach l σ σ'/\Sim σ' τ'/\σ'.pos=j/\σ'.outer=σ.outer/\σ'.inner.number=σ.inner.number/\σ'.inner.start=σ.inner.start/\K σ')\/
 (∃σ',Reach l σ σ'/\Sim σ' τ'/\σ'.pos=l.length/\j=l.length/\σ.outer.length<σ'.outer.length)\/
 (τ'.err≠0/\Fails l σ τ'.err τ'.pl)
def KIt(σ:St)(it:It)(σ':St):Prop:=∃x,σ'.inner.items=σ.inner.items++ [x]/\(x.1=it.1/\x.3=it.3)/\relSz x.2 it.2/\1<=x.2/\1<=it.2
theorem Sim.add{σ:St}{τ:RSt}(h:Sim σ τ)(it:It)(wd:Nat):Sim (addIt σ it wd) τ:=
 ⟨h.done,h.used,by rw[h.opens];simp[opn,addIt],h.groups,h.err,h.g9,h.cl,h.rf,h.r2,h.num,h.nums,h.ol⟩
theorem res_add{l:List UInt8}{σ:St}{τ:RSt}(h:Sim σ τ)(hp:σ.pos<l.length)(k:Int)(tr:Tr)(wd:Nat)(hw:0<wd)(hs:stepT l σ=(0,addIt σ ⟨k,1,tr⟩ wd)):Res l σ (σ.pos+wd) τ (KIt σ ⟨k,1,tr⟩):=
 .inl ⟨_,Reach.step hp hs (by show σ.pos<σ.pos+wd;omega),h.add _ _,rfl,rfl,rfl,rfl,⟨k,1,tr⟩,rfl,⟨rfl,rfl⟩,.inl ⟨by simp,rfl⟩,by simp,by simp⟩
theorem res_err{l:List UInt8}{σ σ':St}{τ:RSt}{K:St->Prop}{j e p:Nat}(hp:σ.pos<l.length)(hs:stepT l σ=(e,σ'))(he:e≠0)(hpos:σ'.pos=p)(h1:τ.err=e)(h2:τ.pl=p):Res l σ j τ K:=
 .inr (.inr ⟨by rw[h1];exact he,by rw[h1,h2];exact Fails.step hp hs he hpos⟩)
end Go.Proofs.YtldiemjlpnachaaGreatDoor

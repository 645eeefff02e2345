import Derived.Test.YtldiemjlpnachaaGreatDoorRItm4
namespace Go.Proofs.YtldiemjlpnachaaGreatDoor
open Go.RowKit
def ptr(b:Nat):Value:= .pointer (some ⟨b,0,none⟩)
def AllR(H:Fins):List Nat->List It->Prop
 | [],[]=>True
 |b::bs,i::is=>(∃d,RItemOk H d b i)/\AllR H bs is
 |_,_=>False
theorem AllR.length{H:Fins}:∀ {bs:List Nat} {is:List It},AllR H bs is->bs.length=is.length
 | [],[],_=>rfl
 |_::_,_::_,h=>by rw[List.length_cons,List.length_cons,AllR.length h.2]
 | [],_::_,h=>h.elim
 |_::_,[],h=>h.elim
theorem AllR.mono{H H':Fins}(hH:∀g arr,H g=some arr->H' g=some arr):∀ {bs:List Nat} {is:List It},AllR H bs is->AllR H' bs is
 | [],[],_=>trivial
 |_::_,_::_,⟨⟨d,h⟩,r⟩=>⟨⟨d,h.mono hH⟩,AllR.mono hH r⟩
 | [],_::_,h=>h.elim
 |_::_,[],h=>h.elim
theorem AllR.snoc{H:Fins}{b:Nat}{i:It}(hb:∃d,RItemOk H d b i):∀ {bs:List Nat} {is:List It},AllR H bs is->AllR H (bs++ [b]) (is++ [i])
 | [],[],_=>⟨hb,trivial⟩
 |_::_,_::_,h=>⟨h.1,AllR.snoc hb h.2⟩
 | [],_::_,h=>h.elim
 |_::_,[],h=>h.elim
theorem AllR.unsnoc{H:Fins}{i:It}:∀ {bs:List Nat} {is:List It},AllR H bs (is++ [i])->∃bs' b,bs=bs'++ [b]/\AllR H bs' is/\∃d,RItemOk H d b i
 | [],[],h=>h.elim
 | [],_::_,h=>h.elim
 | [b],[],h=>⟨[],b,rfl,trivial,h.1⟩
 |_::_::_,[],h=>h.2.elim
 |b::bs,j::is,h=>by
  obtain⟨bs',b',rfl,h1,h2⟩:=AllR.unsnoc (bs:=bs) (is:=is) h.2
  exact⟨b::bs',b',rfl,⟨h.1,h1⟩,h2⟩
theorem RItemOk.succ{H:Fins}:∀ {d b:Nat} {it:It},RItemOk H d b it->RItemOk H (d+1) b it
 |0,_,_,h=>h.elim
 |d+1,b,it,⟨arr,h1,h2,h3,h4,h⟩=>by
  refine⟨arr,h1,h2,h3,h4,?_⟩
  rcases h with h|⟨e,ha,ao,rn,rc,its,hs,⟨r1,r2,r3⟩,hz⟩|⟨e,ha,q,qi,m,n,k1,k2,k3,b1,b2,b3,b4,hq,hz⟩
  ·exact .inl h
  ·refine .inr (.inl ⟨e,ha,ao,rn,rc,its,hs,⟨r1,r2,?_⟩,hz⟩)
   rcases r3 with r3|⟨g,a2,hg,hh,hi⟩
   ·exact .inl r3
   ·exact .inr ⟨g,a2,hg,hh,fun i hi'=>by obtain⟨bb,hb,ho⟩:=hi i hi';exact⟨bb,hb,RItemOk.succ ho⟩⟩
  ·exact .inr (.inr ⟨e,ha,q,qi,m,n,k1,k2,k3,b1,b2,b3,b4,RItemOk.succ hq,hz⟩)
theorem RItemOk.le{H:Fins}{d b:Nat}{it:It}(h:RItemOk H d b it):∀k,RItemOk H (d+k) b it
 |0=>h
 |k+1=>(RItemOk.le h k).succ
theorem AllR.deep{H:Fins}:∀ {bs:List Nat} {is:List It},AllR H bs is->∃D,∀i (h:i<is.length),∃b,bs[i]?=some b/\RItemOk H D b is[i]
 | [],[],_=>⟨0,fun i h=>absurd h (by simp)⟩
 |b::bs,j::is,⟨⟨d,h⟩,r⟩=>by
  obtain⟨D,hD⟩:=AllR.deep r
  refine⟨d+D,fun i hi=>?_⟩
  cases i with
  |zero=>exact⟨b,rfl,h.le D⟩
  |succ i=>
   obtain⟨c,hc,hok⟩:=hD i (by simpa using hi)
   exact⟨c,by simpa using hc,by rw[Nat.add_comm];exact hok.le d⟩
 | [],_::_,h=>h.elim
 |_::_,[],h=>h.elim
theorem AllR.pos{H:Fins}:∀ {bs:List Nat} {is:List It},AllR H bs is->∀y∈is,1<=y.2
 | [],[],_=>by simp
 |_::_,i::is,⟨⟨d,h⟩,r⟩=>fun y hy=>by
  rcases List.mem_cons.1 hy with rfl|hy
  ·exact h.bd.1
  ·exact AllR.pos r y hy
 | [],_::_,h=>h.elim
 |_::_,[],h=>h.elim
theorem sumSz_pos:∀(l:List It),(∀y∈l,1<=y.2)->0<=sumSz (l.map (·.2))
 | [],_=>Int.le_refl 0
 |x::r,h=>by have:=h x (by simp);have:=sumSz_pos r (fun y hy=>h y (by simp[hy]));rw[List.map_cons,sumSz];omega
structure RLive(w:World)(R P:Nat)(H:Fins)(vo v:Value)(bs:List Nat)(its:List It):Prop where
 own:w.ownsRow 0 99 1 v its.length (bs.map ptr)
 all:AllR H bs its
 nR:v.ownBlock≠some R
 nP:v.ownBlock≠some P
 no:∀g,v.ownBlock=some g->vo.ownBlock≠some g
 nH:∀g,v.ownBlock=some g->H g=none
def KRow(l:List UInt8)(j:Nat)(its:List It)(σ':St):Prop:=RelL σ'.inner.items its/\(j<l.length->sw l j [92,41]=true)
def RowPost(w w':World)(r:Ending)(R P:Nat)(s:ByteArray)(H:Fins)(vo:Value)(σ:St):Prop:=
 ∃(ao:Option Addr) (rc j:Nat) (bs:List Nat) (its:List It) (τ':RSt) (H':Fins) (vo':Value),r= .returned (.tuple #[.slice ao its.length rc,.int .i64 j])/\Rg w' R P s H' vo' τ'/\Rkp w w' R P vo vo'/\HG w H H'/\RLive w' R P H' vo' (.slice ao its.length rc) bs its/\
  (∀g,(Value.slice ao its.length rc).ownBlock=some g->w.heap.size<=g)/\σ.pos<=j/\j<=s.size/\sumSz (its.map (·.2))<=21002*((j-σ.pos:Nat):Int)/\its.length<=j-σ.pos/\Res s.data.toList σ j τ' (KRow s.data.toList j its)
def RowSpec(s:ByteArray)(f:Nat):Prop:=∀(w:World) (R P:Nat) (H:Fins) (vo:Value) (τ:RSt) (σ:St) (i:Int),Rg w R P s H vo τ->Sim σ τ->ClsH H->s.size<=60->σ.pos<=s.size->σ.inner.items= []->s.size<σ.pos+f->i=σ.pos->
  Calls Tryz.prog 17 #[.pointer (some ⟨R,0,none⟩),.int .i64 i] w fun r w'=>RowPost w w' r R P s H vo σ
theorem info_ptr:(Tryz.prog.info? 99).map (fun i=>(i.zero,i.size,i.bytes))=some (some (.pointer none),1,8):=by kernel_rfl
theorem uPtrs:Tryz.prog.underlying 61=some (.slice 99):=by kernel_rfl
theorem RLive.finish{w:World}{R P:Nat}{s:ByteArray}{H:Fins}{vo:Value}{τ:RSt}{ao:Option Addr}{rc:Nat}{bs:List Nat}{its:List It}(hr:Rg w R P s H vo τ)(h:RLive w R P H vo (.slice ao its.length rc) bs its)(hl:its.length<=1000):
  ∃H' d,Rg w R P s H' vo τ/\(∀g arr,H g=some arr->H' g=some arr)/\(∀g,H' g≠none->H g≠none\/(Value.slice ao its.length rc).ownBlock=some g)/\RRow (RItemOk H' d) H' ao its.length its:=by
 rcases h.own.2 with⟨hv,h0⟩|⟨g,cap,cur,hv,_,hg,h1,h2,h3,h4⟩
 ·exact⟨H,0,hr,fun _ _ h=>h,fun _ h=> .inl h,rfl,hl,.inl h0⟩
 ·simp only[Value.slice.injEq,true_and]at hv
  obtain⟨rfl,rfl⟩:=hv
  have hH:=h.nH g rfl
  have hmono:∀g' a,H g'=some a->(fun k=>if k=g then some cur else H k) g'=some a:=by
   intro g' a ha
   by_cases e:g'=g
   ·subst e;rw[hH]at ha;cases ha
   ·simp[e];exact ha
  obtain⟨D,hD⟩:=(h.all.mono hmono).deep
  refine⟨_,D,hr.finish g cur false hg hH (fun e=>h.nR (by rw[e];rfl)) (fun e=>h.nP (by rw[e];rfl)) (h.no g rfl),hmono,fun g' hg'=>?_,rfl,hl,.inr ⟨g,cur,rfl,by simp,fun i hi=>?_⟩⟩
  ·by_cases e:g'=g
   ·subst e;exact .inr rfl
   ·simp[e]at hg';exact .inl hg'
  ·obtain⟨b,hb,hok⟩:=hD i hi
   refine⟨b,?_,hok⟩
   have:(bs.map ptr)[i]?=some (ptr b):=by rw[List.getElem?_map,hb];rfl
   rw[<-h4,List.getElem?_take_of_lt (by omega)]at this
   simpa[ptr]using this
end Go.Proofs.YtldiemjlpnachaaGreatDoor
namespace Go.Proofs.YtldiemjlpnachaaGreatDoor
open Go.RowKit
section
variable {w : World} {R P : Nat} {s : ByteArray} {H : Fins} {vo : Value} {τ : RSt} {σ : St}
def opnT(σ:St):St:= {σ with pos:=σ.pos+2,inner:=⟨σ.groups+1,σ.pos,[]⟩,outer:=σ.outer++ [σ.inner],groups:=σ.groups+1}
theorem esc_open(hx:ch s.data.toList σ.pos=92)(h:σ.pos+1<s.size)(hc:ch s.data.toList (σ.pos+1)=40):stepT s.data.toList σ=openT σ:=by
 rw[step_bs hx];unfold escT;rw[if_neg (by rw[len_data];omega),if_pos hc]
theorem opn_open(σ:St):opn (opnT σ)=opn σ++ [σ.pos]:=by
 unfold opn opnT
 simp only[List.map_append,List.map_cons,List.map_nil]
 rw[List.drop_append_of_le_length (by simp)]
theorem Sim.open(hS:Sim σ τ)(hg:σ.groups<9):Sim (opnT σ) {τ with groups:=τ.groups+1,opens:=τ.opens++ [σ.pos]}:=
 ⟨hS.done,hS.used,by rw[opn_open,hS.opens],by show τ.groups+1=σ.groups+1;rw[hS.groups],hS.err,by show σ.groups+1<=9;omega,fun n hn=>by have:=hS.cl n hn;show n<=σ.groups+1;omega,hS.rf,hS.r2,Nat.le_refl _,
  fun r hr=>by
   show r.number<=σ.groups+1
   have hr':r∈σ.outer++ [σ.inner]:=hr
   rcases List.mem_append.1 hr' with h|h
   ·have:=hS.nums r h;omega
   ·have e:r=σ.inner:=by simpa using h
    rw[e];have:=hS.num;omega,by show(σ.outer++ [σ.inner]).length<=σ.groups+1;have:=hS.ol;simp;omega⟩
theorem open_reach(hx:ch s.data.toList σ.pos=92)(h:σ.pos+1<s.size)(hc:ch s.data.toList (σ.pos+1)=40)(hg:σ.groups<9):Reach s.data.toList σ (opnT σ):=
 Reach.step (by rw[len_data];omega) ((esc_open hx h hc).trans (by unfold openT;rw[if_neg (by omega)];rfl)) (by show σ.pos<σ.pos+2;omega)
def clsT(σ2:St)(o:List Rw)(r:Rw):St:= {σ2 with pos:=σ2.pos+2,inner:= {r with items:=r.items++ [itGrp σ2.inner.number σ2.inner.items]},outer:=o,closed:=fun i=>if i=σ2.inner.number then true else σ2.closed i}
theorem close_step{l:List UInt8}{σ2:St}{o:List Rw}{r:Rw}(hw:sw l σ2.pos [92,41]=true)(ho:σ2.outer=o++ [r]):stepT l σ2=(0,clsT σ2 o r)/\σ2.pos+1<l.length:=by
 rw[sw2]at hw
 simp only[Bool.and_eq_true,decide_eq_true_eq,beq_iff_eq]at hw
 obtain⟨⟨h1,h2⟩,h3⟩:=hw
 have h2':ch l σ2.pos=92:=h2
 have h3':ch l (σ2.pos+1)=41:=h3
 refine⟨?_,h1⟩
 unfold stepT
 rw[if_pos h2']
 unfold escT
 rw[if_neg (by omega),if_neg (by omega),if_pos h3']
 unfold closeT clsT
 rw[ho]
 simp
theorem Sim.close{σ2:St}{τ2:RSt}{o:List Rw}{r:Rw}(hS:Sim σ2 τ2)(ho:σ2.outer=o++ [r]):Sim (clsT σ2 o r) {τ2 with opens:=τ2.opens.dropLast,done:=fun i=>if i=σ2.inner.number then true else τ2.done i}:=by
 refine⟨fun i hi=>?_,hS.used,?_,hS.groups,hS.err,hS.g9,fun n hn=>?_,hS.rf,hS.r2,?_,fun x hx=>hS.nums x (by rw[ho];exact List.mem_append_left _ hx),by show o.length<=σ2.groups;have:=hS.ol;rw[ho]at this;simp at this;omega⟩
 ·show(if i=σ2.inner.number then true else τ2.done i)=(if i=σ2.inner.number then true else σ2.closed i)
  rw[hS.done i hi]
 ·show τ2.opens.dropLast=opn (clsT σ2 o r)
  rw[hS.opens]
  unfold opn clsT
  rw[ho]
  simp only[List.map_append,List.map_cons,List.map_nil]
  rw[List.drop_append_of_le_length (by simp),List.dropLast_concat]
 ·show n<=σ2.groups
  by_cases e:n=σ2.inner.number
  ·rw[e];exact hS.num
  ·have hn':(if n=σ2.inner.number then true else σ2.closed n)=true:=hn
   rw[if_neg e]at hn'
   exact hS.cl n hn'
 ·show r.number<=σ2.groups
  exact hS.nums r (by rw[ho];simp)
theorem grp_item{w5:World}{τ5:RSt}{ao:Option Addr}{rc b:Nat}{bs:List Nat}{its:List It}{arr:Array Value}(hr:Rg w5 R P s H vo τ5)(hl:RLive w5 R P H vo (.slice ao its.length rc) bs its)(hb:w5.heap[b]?=some (.cells arr 102 (0,0)))(h1:arr.size=262)(h2:arr[0]?=some (.string ⟨#[103,114,111,117,112]⟩))(h3:arr[258]?=some (.slice ao its.length rc))(k:Nat)(hk9:k<=9)(h57:arr[257]?=some (.int .i64 k))
  (hn:H b=none)(hR:b≠R)(hP:b≠P)(ho:vo.ownBlock≠some b)(hv:(Value.slice ao its.length rc).ownBlock≠some b)(hlen:its.length<=1000)(hsum:sumSz (its.map (·.2))<=1500000):
  ∃H'' d,Rg w5 R P s H'' vo τ5/\(∀g a,H g=some a->H'' g=some a)/\(∀g,H'' g≠none->H g≠none\/g=b\/(Value.slice ao its.length rc).ownBlock=some g)/\RItemOk H'' d b ⟨4,1+(1+sumSz (its.map (·.2))),.grp k (its.map (·.3))⟩:=by
 have hpos:=sumSz_pos its hl.all.pos
 obtain⟨H1,d,hr1,hm1,hx1,hrow⟩:=hl.finish hr hlen
 have hb1:H1 b=none:=by
  cases hh:H1 b with
  |none=>rfl
  |some a=>
   rcases hx1 b (by rw[hh];simp)with h|h
   ·rw[hn]at h;exact absurd rfl h
   ·exact absurd h hv
 have hmono:∀g a,H1 g=some a->(fun k=>if k=b then some arr else H1 k) g=some a:=by
  intro g a ha
  by_cases e:g=b
  ·subst e;rw[hb1]at ha;cases ha
  ·simp[e];exact ha
 refine⟨_,d+1,hr1.finish b arr true hb hb1 hR hP ho,fun g a hg=>hmono g a (hm1 g a hg),fun g hg=>?_,arr,by simp,h1,by show(1:Int)<=1+(1+sumSz (its.map (·.2)));omega,by show 1+(1+sumSz (its.map (·.2)))<=(2000000:Int);omega,.inr (.inl ⟨rfl,h2,ao,its.length,rc,its,h3,?_,rfl,k,hk9,h57,rfl⟩)⟩
 ·by_cases e:g=b
  ·exact .inr (.inl e)
  ·simp[e]at hg
   rcases hx1 g hg with h|h
   ·exact .inl h
   ·exact .inr (.inr h)
 ·obtain⟨r1,r2,r3⟩:=hrow
  refine⟨r1,r2,?_⟩
  rcases r3 with r3|⟨g,a2,hg,hh,hi⟩
  ·exact .inl r3
  ·exact .inr ⟨g,a2,hg,hmono _ _ hh,fun i hi'=>by obtain⟨bb,hb',hok⟩:=hi i hi';exact⟨bb,hb',hok.mono hmono⟩⟩
end
end Go.Proofs.YtldiemjlpnachaaGreatDoor
namespace Go.Proofs.YtldiemjlpnachaaGreatDoor
open Go.RowKit
section
variable {w w1 : World} {R P : Nat} {s : ByteArray} {H : Fins} {vo : Value} {τ : RSt} {σ : St}
theorem Rg.opened(h:Rg w R P s H vo τ)(hg:w.grownBy w1 vo.ownBlock)(v':Value)(os:List Nat)(hown:w1.ownsRow 0 3 1 v' os.length (os.map fun n:Nat=>Value.int .i64 n))(hat:∀k,v'.ownBlock=some k->vo.ownBlock=some k\/k=w.heap.size):
  Rg (w1.setCell ⟨R,12,none⟩ v') R P s H v' {τ with opens:=os}/\Rkp w (w1.setCell ⟨R,12,none⟩ v') R P vo v':=by
 have lR:=h.ltR
 have lP:=h.ltP
 have eR:∀i,w1.cell? ⟨R,i,none⟩=w.cell? ⟨R,i,none⟩:=fun i=>hg.cell_far _ lR (fun e=>h.oR e.symm)
 have eP:∀i,w1.cell? ⟨P,i,none⟩=w.cell? ⟨P,i,none⟩:=fun i=>hg.cell_far _ lP (fun e=>h.oP e.symm)
 have gR:∀i,w1.frozen? ⟨R,i,none⟩=w.frozen? ⟨R,i,none⟩:=fun i=>hg.frozen_far _ lR (fun e=>h.oR e.symm)
 have gP:∀i,w1.frozen? ⟨P,i,none⟩=w.frozen? ⟨P,i,none⟩:=fun i=>hg.frozen_far _ lP (fun e=>h.oP e.symm)
 have oR':v'.ownBlock≠some R:=fun e=>by
  rcases hat R e with e|e
  ·exact h.oR e
  ·omega
 have oP':v'.ownBlock≠some P:=fun e=>by
  rcases hat P e with e|e
  ·exact h.oP e
  ·omega
 have k1:∀j,12≠j->(w1.setCell ⟨R,12,none⟩ v').cell? ⟨R,j,none⟩=w.cell? ⟨R,j,none⟩:=fun j hj=>(World.cell?_setCell_other _ _ _ _ (by rintro e;injection e;omega)).trans (eR j)
 have k2:∀j,(w1.setCell ⟨R,12,none⟩ v').cell? ⟨P,j,none⟩=w.cell? ⟨P,j,none⟩:=fun j=>(World.cell?_setCell_other _ _ _ _ (by rintro e;injection e;exact h.ne ‹_›)).trans (eP j)
 have k3:∀a,(w1.setCell ⟨R,12,none⟩ v').frozen? a=w1.frozen? a:=fun a=>World.frozen?_setCell _ _ _ _
 refine⟨⟨(k1 0 (by omega)).trans h.c0,(k1 1 (by omega)).trans h.c1,fun i hi=>(k1 _ (by omega)).trans (h.cd i hi),World.cell?_setCell_same _ _ _ ((eR 12).trans h.co),(k1 13 (by omega)).trans h.ce,(k1 14 (by omega)).trans h.ca,fun i=>(k3 _).trans ((gR i).trans (h.fR i)),
  h.p0.imp fun _ hv=>(k2 _).trans hv,(k2 _).trans h.pg,fun i hi=>(k2 _).trans (h.pu i hi),fun i=>(k3 _).trans ((gP i).trans (h.fP i)),
  owns_same hown fun k hk=>Below.heap_setCell _ _ _ _ (fun e=>oR' (by rw[hk];exact congrArg some e)),h.ne,oR',oP',fun g arr hH=>?_,fun g arr hH=>⟨(h.sep g arr hH).1,(h.sep g arr hH).2.1,fun e=>?_⟩⟩,
  ⟨hg.os,hg.tape,hg.output,by simp[World.setCell];exact hg.size,fun k hk hR _ ho=>(Below.heap_setCell _ _ _ _ hR).trans (hg.block k hk (fun e=>ho e.symm)),fun k hk=>(hat k hk).imp id (fun e=>by omega)⟩⟩
 ·obtain⟨t,fr,ht⟩:=h.fin g arr hH
  exact⟨t,fr,(Below.heap_setCell _ _ _ _ (h.sep g arr hH).1).trans ((hg.block g (h.fin.lt hH) (fun e=>(h.sep g arr hH).2.2 e.symm)).trans ht)⟩
 ·rcases hat g e with e|e
  ·exact(h.sep g arr hH).2.2 e
  ·have:=h.fin.lt hH;omega
structure G6(w w6:World)(R P:Nat)(s:ByteArray)(H:Fins)(vo v6:Value)(τ1:RSt)(b:Nat)(n:Int):Prop where
 rg:Rg w6 R P s H v6 τ1
 kp:Rkp w w6 R P vo v6
 new:w.heap.size<=b
 lt:b<w6.heap.size
 own:v6.ownBlock≠some b
 hb:w6.heap[b]?=some (.cells (itC ⟨#[103,114,111,117,112]⟩ n none 0 0) 102 (0,0))
structure G8(w w8:World)(R P:Nat)(s:ByteArray)(H H7:Fins)(vo v7:Value)(τ7:RSt)(b:Nat)(n:Int)(ao:Option Addr)(rc:Nat)(bs:List Nat)(its:List It):Prop where
 rg:Rg w8 R P s H7 v7 τ7
 kp:Rkp w w8 R P vo v7
 hg:HG w H H7
 lv:RLive w8 R P H7 v7 (.slice ao its.length rc) bs its
 rn:∀g,(Value.slice ao its.length rc).ownBlock=some g->w.heap.size<=g
 new:w.heap.size<=b
 nR:b≠R
 nP:b≠P
 own:v7.ownBlock≠some b
 nH:H7 b=none
 nv:(Value.slice ao its.length rc).ownBlock≠some b
 hb:∃arr,w8.heap[b]?=some (.cells arr 102 (0,0))/\arr.size=262/\arr[0]?=some (.string ⟨#[103,114,111,117,112]⟩)/\arr[257]?=some (.int .i64 n)/\arr[258]?=some (.slice ao its.length rc)
theorem G6.row{w6 w7:World}{v6 v7:Value}{H7:Fins}{τ1 τ7:RSt}{b:Nat}{n:Int}{ao:Option Addr}{rc:Nat}{bs:List Nat}{its:List It}(hRg:Rg w R P s H vo τ)(g:G6 w w6 R P s H vo v6 τ1 b n)(hr:Rg w7 R P s H7 v7 τ7)(hk:Rkp w6 w7 R P v6 v7)(hh:HG w6 H H7)
  (hl:RLive w7 R P H7 v7 (.slice ao its.length rc) bs its)(hn:∀g,(Value.slice ao its.length rc).ownBlock=some g->w6.heap.size<=g):
  G8 w (w7.setCell ⟨b,258,none⟩ (.slice ao its.length rc)) R P s H H7 vo v7 τ7 b n ao rc bs its:=by
 have lR:=hRg.ltR
 have lP:=hRg.ltP
 have hbn:=g.new
 have hlt:=g.lt
 have hsz:=g.kp.size
 have nR:b≠R:=by omega
 have nP:b≠P:=by omega
 have own:v7.ownBlock≠some b:=fun e=>by
  rcases hk.own b e with e|e
  ·exact g.own e
  ·omega
 have hHb:H b=none:=by
  cases hh2:H b with
  |none=>rfl
  |some a=>have:=hRg.fin.lt hh2;omega
 have nH:H7 b=none:=by
  cases hh2:H7 b with
  |none=>rfl
  |some a=>
   rcases hh.2 b (by rw[hh2];simp)with e|e
   ·exact absurd hHb e
   ·omega
 have nv:(Value.slice ao its.length rc).ownBlock≠some b:=fun e=>by have:=hn b e;omega
 refine⟨hr.set b 258 _ nR nP own nH,(g.kp.trans hk).setNew b 258 hbn _,(HG.refl w H).trans hh hsz,⟨owns_same hl.own fun k hk2=>Below.heap_setCell _ _ _ _ (fun e=>nv (by rw[hk2];exact congrArg some e)),hl.all,hl.nR,hl.nP,hl.no,hl.nH⟩,fun k hk2=>by have:=hn k hk2;omega,hbn,nR,nP,own,nH,nv,?_⟩
 have hb7:=(hk.block b hlt nR nP g.own).trans g.hb
 refine⟨_,heap_setCell_self hb7 _,by simp[itC_size],by rw[Array.getElem?_setIfInBounds_ne (by omega)];exact itC_0 _ _ _ _ _,by rw[Array.getElem?_setIfInBounds_ne (by omega)];exact itC_257 _ _ _ _ _,by rw[Array.getElem?_setIfInBounds_self_of_lt (by rw[itC_size];omega)]⟩
theorem G8.drew{w8:World}{v7:Value}{H7:Fins}{τ7:RSt}{b:Nat}{n:Int}{ao:Option Addr}{rc:Nat}{bs:List Nat}{its:List It}(g:G8 w w8 R P s H H7 vo v7 τ7 b n ao rc bs its):G8 w w8.drew R P s H H7 vo v7 τ7 b n ao rc bs its:=
 ⟨g.rg.drew,g.kp.drew,g.hg,⟨g.lv.own.drew,g.lv.all,g.lv.nR,g.lv.nP,g.lv.no,g.lv.nH⟩,g.rn,g.new,g.nR,g.nP,g.own,g.nH,g.nv,g.hb⟩
theorem G8.pop{w8:World}{H7:Fins}{τ7:RSt}{b:Nat}{n:Int}{ao:Option Addr}{rc:Nat}{bs:List Nat}{its:List It}{k cap q:Nat}{os:List Nat}(g:G8 w w8 R P s H H7 vo (.slice (some ⟨k,0,none⟩) (os.length+1) cap) τ7 b n ao rc bs its)(ho:τ7.opens=os++ [q]):
  G8 w (w8.setCell ⟨R,12,none⟩ (.slice (some ⟨k,0,none⟩) os.length cap)) R P s H H7 vo (.slice (some ⟨k,0,none⟩) os.length cap) {τ7 with opens:=os} b n ao rc bs its:=by
 have ho1:=g.rg.own
 rw[ho]at ho1
 simp only[List.length_append,List.length_singleton,List.map_append]at ho1
 have ho2:=owns_pop ho1 (by simp)
 refine⟨g.rg.setOpens _ os ho2 g.rg.oR g.rg.oP (fun k' arr hk=>(g.rg.sep k' arr hk).2.2),?_,g.hg,⟨owns_same g.lv.own fun k' hk=>Below.heap_setCell _ _ _ _ (fun e=>g.lv.nR (by rw[hk];exact congrArg some e)),g.lv.all,g.lv.nR,g.lv.nP,g.lv.no,g.lv.nH⟩,g.rn,g.new,g.nR,g.nP,g.own,g.nH,g.nv,?_⟩
 ·have:=g.kp.setR 12 (.slice (some ⟨k,0,none⟩) os.length cap)
  exact⟨this.os,this.tape,this.output,this.size,this.block,this.own⟩
 ·obtain⟨arr,h1,h2⟩:=g.hb
  exact⟨arr,(Below.heap_setCell _ _ _ _ g.nR).trans h1,h2⟩
theorem G8.done{w8:World}{v7:Value}{H7:Fins}{τ7:RSt}{b:Nat}{n:Int}{ao:Option Addr}{rc:Nat}{bs:List Nat}{its:List It}(g:G8 w w8 R P s H H7 vo v7 τ7 b n ao rc bs its)(m:Nat)(hm:m<10):
  G8 w (w8.setCell ⟨R,2+m,none⟩ (.bool true)) R P s H H7 vo v7 {τ7 with done:=fun i=>if i=m then true else τ7.done i} b n ao rc bs its:=by
 refine⟨g.rg.setDone m hm,g.kp.setR _ _,g.hg,⟨owns_same g.lv.own fun k' hk=>Below.heap_setCell _ _ _ _ (fun e=>g.lv.nR (by rw[hk];exact congrArg some e)),g.lv.all,g.lv.nR,g.lv.nP,g.lv.no,g.lv.nH⟩,g.rn,g.new,g.nR,g.nP,g.own,g.nH,g.nv,?_⟩
 obtain⟨arr,h1,h2⟩:=g.hb
 exact⟨arr,(Below.heap_setCell _ _ _ _ g.nR).trans h1,h2⟩
theorem G8.item{w8:World}{v7:Value}{H7:Fins}{τ7:RSt}{b:Nat}{n:Int}{ao:Option Addr}{rc:Nat}{bs:List Nat}{its:List It}(g:G8 w w8 R P s H H7 vo v7 τ7 b n ao rc bs its)(k:Nat)(hk9:k<=9)(hnk:n=k)(hlen:its.length<=1000)(hsum:sumSz (its.map (·.2))<=1500000):
  ItPost w w8 R P s H vo τ7 b ⟨4,1+(1+sumSz (its.map (·.2))),.grp k (its.map (·.3))⟩:=by
 subst hnk
 obtain⟨arr,h1,h2,h3,h57,h5⟩:=g.hb
 obtain⟨H'',d,k1,k2,k3,k4⟩:=grp_item g.rg g.lv h1 h2 h3 h5 k hk9 h57 g.nH g.nR g.nP g.own g.nv hlen hsum
 refine⟨H'',v7,k1,g.kp,⟨fun q arr hq=>k2 q arr (g.hg.1 q arr hq),fun q hq=>?_⟩,d,k4⟩
 rcases k3 q hq with e|e|e
 ·exact g.hg.2 q e
 ·exact .inr (by have:=g.new;omega)
 ·exact .inr (g.rn q e)
theorem grp5(h:Rg w R P s H vo τ)(n:Nat):Rg ((w.setCell ⟨P,1,none⟩ (.int .i64 ((n:Int)+1))).alloc (.cells (itC ⟨#[103,114,111,117,112]⟩ ((n:Int)+1) none 0 0) 102)) R P s H vo {τ with groups:=n+1}/\
  Rkp w ((w.setCell ⟨P,1,none⟩ (.int .i64 ((n:Int)+1))).alloc (.cells (itC ⟨#[103,114,111,117,112]⟩ ((n:Int)+1) none 0 0) 102)) R P vo vo/\
  ((w.setCell ⟨P,1,none⟩ (.int .i64 ((n:Int)+1))).alloc (.cells (itC ⟨#[103,114,111,117,112]⟩ ((n:Int)+1) none 0 0) 102)).heap[w.heap.size]?=some (.cells (itC ⟨#[103,114,111,117,112]⟩ ((n:Int)+1) none 0 0) 102 (0,0))/\
  ((w.setCell ⟨P,1,none⟩ (.int .i64 ((n:Int)+1))).alloc (.cells (itC ⟨#[103,114,111,117,112]⟩ ((n:Int)+1) none 0 0) 102)).heap.size=w.heap.size+1:=by
 have h1:=(h.setGroups (n+1)).alloc (.cells (itC ⟨#[103,114,111,117,112]⟩ ((n:Int)+1) none 0 0) 102)
 rw[Int.natCast_add,Int.natCast_one]at h1
 have e:(w.setCell ⟨P,1,none⟩ (.int .i64 ((n:Int)+1))).heap.size=w.heap.size:=by simp[World.setCell]
 refine⟨h1,((Rkp.refl w R P vo).setP _ _).alloc _,?_,by simp[World.setCell]⟩
 rw[<-e];exact heap_alloc_last _ _
theorem grp6{W w1:World}{g cap:Nat}{x:Int}(h:Rg w R P s H vo τ)(k5:Rg W R P s H vo {τ with groups:=σ.groups+1}/\Rkp w W R P vo vo/\W.heap[w.heap.size]?=some (.cells (itC ⟨#[103,114,111,117,112]⟩ x none 0 0) 102 (0,0))/\W.heap.size=w.heap.size+1)(o:Obj)
  (hown:w1.ownsRow 0 3 1 (.slice (some ⟨g,0,none⟩) (τ.opens.length+1) cap) (τ.opens.length+1) ((τ.opens.map fun n:Nat=>Value.int .i64 n)++ [.int .i64 σ.pos]))(hgr:(W.alloc o).grownBy w1 vo.ownBlock)(hat:vo.ownBlock=some g\/g=W.heap.size+1):
  G6 w (w1.setCell ⟨R,12,none⟩ (.slice (some ⟨g,0,none⟩) (τ.opens.length+1) cap)) R P s H vo (.slice (some ⟨g,0,none⟩) (τ.opens.length+1) cap) {τ with groups:=σ.groups+1,opens:=τ.opens++ [σ.pos]} w.heap.size x:=by
 obtain⟨h1,h2,h3,h4⟩:=k5
 have lR:=h.ltR
 have ho:=(h1.alloc o).opened hgr (.slice (some ⟨g,0,none⟩) (τ.opens.length+1) cap) (τ.opens++ [σ.pos]) (by rw[List.length_append,List.length_singleton,List.map_append];exact hown) (fun k hk=>by
  simp only[Value.ownBlock,Option.some.injEq]at hk
  subst hk
  rcases hat with e|e
  ·exact .inl e
  ·right;simp;exact e)
 have hk:=(h2.alloc o).trans ho.2
 have hsz:=hgr.size
 have hno:vo.ownBlock≠some w.heap.size:=fun e=>by have:=owns_lt h.own e;omega
 refine⟨ho.1,hk,Nat.le_refl _,by simp[World.setCell]at hsz ⊢;omega,?_,?_⟩
 ·intro e
  rcases hat with e'|e'
  ·exact hno (e'.trans e)
  ·simp only[Value.ownBlock,Option.some.injEq]at e
   omega
 ·rw[Below.heap_setCell _ _ _ _ (by show w.heap.size≠R;omega),hgr.block _ (by simp;omega) (fun e=>hno e.symm),Below.heap_alloc _ _ _ (by omega)]
  exact h3
theorem grp_open_res {σ0 : St} {τ7 : RSt} {j : Nat} {its : List It} {K : St → Prop} (hre : Reach s.data.toList σ0 (opnT σ0)) (hres : Res s.data.toList (opnT σ0) j τ7 (KRow s.data.toList j its)) (hj : j ≤ s.size) (hno : τ7.err ≠ 0 ∨ s.size ≤ j) : Res s.data.toList σ0 j τ7 K := by
  have hl := len_data s
  rcases hres with ⟨σ', h1, h2, h3, h4, h5, h6, h7⟩ | ⟨σ', h1, h2, h3, h4, h5⟩ | ⟨h1, h2⟩
  · have : s.size ≤ j := hno.resolve_left (fun e => e h2.err)
    exact .inr (.inl ⟨σ', hre.trans h1, h2, by omega, by omega, by rw [h4]; show _ < (σ0.outer ++ [σ0.inner]).length; simp⟩)
  · exact .inr (.inl ⟨σ', hre.trans h1, h2, h3, h4, by have : (opnT σ0).outer.length = σ0.outer.length + 1 := by show (σ0.outer ++ [σ0.inner]).length = _; simp
                                                       omega⟩)
  · exact .inr (.inr ⟨h1, hre.fails h2⟩)
theorem grp_close_res{σ0:St}{τ7:RSt}{j:Nat}{its:List It}(hre:Reach s.data.toList σ0 (opnT σ0))(hres:Res s.data.toList (opnT σ0) j τ7 (KRow s.data.toList j its))(he:τ7.err=0)(hj:j<s.size):
  τ7.opens=opn σ0++ [σ0.pos]/\j+2<=s.size/\Res s.data.toList σ0 (j+2) {τ7 with opens:=opn σ0,done:=fun i=>if i=σ0.groups+1 then true else τ7.done i} (KIt σ0 ⟨4,1+(1+sumSz (its.map (·.2))),.grp (σ0.groups+1) (its.map (·.3))⟩):=by
 have hl:=len_data s
 rcases hres with⟨σ',h1,h2,h3,h4,h5,h6,h7⟩|⟨σ',h1,h2,h3,h4,h5⟩|⟨h1,h2⟩
 ·have hsw:=h7.2 (by omega)
  rw[<-h3]at hsw
  obtain⟨hst,hlt⟩:=close_step hsw (show σ'.outer=σ0.outer++ [σ0.inner]from h4)
  have hnum:σ'.inner.number=σ0.groups+1:=h5
  have hopn:opn σ'=opn σ0++ [σ0.pos]:=by
   rw[<-opn_open σ0]
   unfold opn
   rw[h4,List.map_append,List.map_append,List.map_singleton,List.map_singleton,h6]
  refine⟨h2.opens.trans hopn,by omega,.inl ⟨_,(hre.trans h1).trans (Reach.step (by omega) hst (by show σ'.pos<σ'.pos+2;omega)),?_,by show σ'.pos+2=j+2;omega,rfl,rfl,rfl,itGrp σ'.inner.number σ'.inner.items,rfl,⟨rfl,by show Tr.grp _ _=Tr.grp _ _;rw[hnum,h7.1.trees]⟩,?_,?_,?_⟩⟩
  ·have hc:=h2.close (show σ'.outer=σ0.outer++ [σ0.inner]from h4)
   rw[hnum,h2.opens,hopn,List.dropLast_concat]at hc
   exact hc
  ·have:=h7.1.rowSz
   have hp:=rowGo_pos σ'.inner.items 1 (by omega) h7.1.pos.1
   have hs:=sumSz_nn h7.1
   have hp':1<=rowSz (σ'.inner.items.map (·.2)):=hp
   show relSz (1+rowSz (σ'.inner.items.map (·.2))) (1+(1+sumSz (its.map (·.2))))
   unfold relSz at this ⊢
   omega
  ·have hp:=rowGo_pos σ'.inner.items 1 (by omega) h7.1.pos.1
   have hp':1<=rowSz (σ'.inner.items.map (·.2)):=hp
   show 1<=1+rowSz (σ'.inner.items.map (·.2))
   omega
  ·have hs:=sumSz_nn h7.1
   show 1<=1+(1+sumSz (its.map (·.2)))
   omega
 ·omega
 ·exact absurd he h1
end
end Go.Proofs.YtldiemjlpnachaaGreatDoor
namespace Go.Proofs.YtldiemjlpnachaaGreatDoor
open Go.RowKit
structure RI(w0 w:World)(R P:Nat)(s:ByteArray)(H H':Fins)(vo vo' v:Value)(τ:RSt)(bs:List Nat)(its:List It):Prop where
 rg:Rg w R P s H' vo' τ
 kp:Rkp w0 w R P vo vo'
 hg:HG w0 H H'
 lv:RLive w R P H' vo' v bs its
 rn:∀g,v.ownBlock=some g->w0.heap.size<=g
section
variable {w0 w w2 : World} {R P : Nat} {s : ByteArray} {H H' : Fins} {vo vo' v : Value} {τ τ2 : RSt} {bs : List Nat} {its : List It}
theorem RI.start(h:Rg w R P s H vo τ):RI w w R P s H H vo vo (.slice none 0 0) τ [] []:=
 ⟨h,Rkp.refl _ _ _ _,HG.refl _ _,⟨World.ownsRow_nil _ _ _ _,trivial,by simp[Value.ownBlock],by simp[Value.ownBlock],by simp[Value.ownBlock],by simp[Value.ownBlock]⟩,by simp[Value.ownBlock]⟩
theorem RI.drew(h:RI w0 w R P s H H' vo vo' v τ bs its):RI w0 w.drew R P s H H' vo vo' v τ bs its:=
 ⟨h.rg.drew,h.kp.drew,h.hg,⟨h.lv.own.drew,h.lv.all,h.lv.nR,h.lv.nP,h.lv.no,h.lv.nH⟩,h.rn⟩
theorem RI.lt(h:RI w0 w R P s H H' vo vo' v τ bs its){g:Nat}(hg:v.ownBlock=some g):g<w.heap.size:=owns_lt h.lv.own hg
theorem RI.step{b:Nat}{it:It}(h:RI w0 w R P s H H' vo vo' v τ bs its)(hi:ItPost w w2 R P s H' vo' τ2 b it):∃H2 vo2,RI w0 w2 R P s H H2 vo vo2 v τ2 bs its/\∃d,RItemOk H2 d b it:=by
 obtain⟨H2,vo2,h1,h2,h3,d,h4⟩:=hi
 refine⟨H2,vo2,⟨h1,h.kp.trans h2,h.hg.trans h3 h.kp.size,⟨owns_same h.lv.own fun k hk=>h2.block k (h.lt hk) (fun e=>h.lv.nR (by rw[hk,e])) (fun e=>h.lv.nP (by rw[hk,e])) (h.lv.no k hk),h.lv.all.mono h3.1,h.lv.nR,h.lv.nP,fun g hg e=>?_,fun g hg=>?_⟩,h.rn⟩,d,h4⟩
 ·rcases h2.own g e with e|e
  ·exact h.lv.no g hg e
  ·have:=h.lt hg;omega
 ·cases hh:H2 g with
  |none=>rfl
  |some a=>
   rcases h3.2 g (by rw[hh];simp)with e|e
   ·exact absurd (h.lv.nH g hg) e
   ·have:=h.lt hg;omega
theorem RI.wrong(h:RI w0 w R P s H H' vo vo' v τ bs its)(hr:Rg w2 R P s H' vo' τ2)(hk:Rkp w w2 R P vo' vo'):RI w0 w2 R P s H H' vo vo' v τ2 bs its:=
 ⟨hr,h.kp.trans hk,h.hg,⟨owns_same h.lv.own fun k hk2=>hk.block k (h.lt hk2) (fun e=>h.lv.nR (by rw[hk2,e])) (fun e=>h.lv.nP (by rw[hk2,e])) (h.lv.no k hk2),h.lv.all,h.lv.nR,h.lv.nP,h.lv.no,h.lv.nH⟩,h.rn⟩
theorem RI.append{b d:Nat}{it:It}{o:Obj}{g cap:Nat}(h:RI w0 w R P s H H' vo vo' v τ bs its)(hb:RItemOk H' d b it)(hgr:(w.alloc o).grownBy w2 v.ownBlock)
  (hown:w2.ownsRow 0 99 1 (.slice (some ⟨g,0,none⟩) (its.length+1) cap) (its.length+1) (bs.map ptr++ [ptr b]))(hat:v.ownBlock=some g\/g=w.heap.size+1):
  RI w0 w2 R P s H H' vo vo' (.slice (some ⟨g,0,none⟩) (its.length+1) cap) τ (bs++ [b]) (its++ [it]):=by
 have hsz:=h.kp.size
 have lR:=h.rg.ltR
 have lP:=h.rg.ltP
 have hne:∀k,k<w.heap.size->v.ownBlock≠some k->g≠k:=fun k hk hv e=>by
  rcases hat with e'|e'
  ·exact hv (by rw[e',e])
  ·omega
 refine⟨(h.rg.alloc o).grown hgr h.lv.nR h.lv.nP (fun k hk e=>h.lv.no k e hk) (fun q arr hq e=>?_),?_,h.hg,⟨?_,h.lv.all.snoc ⟨d,hb⟩,?_,?_,?_,?_⟩,?_⟩
 ·rw[h.lv.nH q e]at hq;cases hq
 ·have k1:=h.kp.alloc o
  refine⟨hgr.os.trans k1.os,hgr.tape.trans k1.tape,hgr.output.trans k1.output,Nat.le_trans k1.size hgr.size,fun k hk h1 h2 h3=>(hgr.block k (by have:=k1.size;omega) (fun e=>?_)).trans (k1.block k hk h1 h2 h3),k1.own⟩
  have:=h.rn k e.symm;omega
 ·rw[List.length_append,List.length_singleton,List.map_append];exact hown
 ·simp only[Value.ownBlock,ne_eq,Option.some.injEq];exact hne R lR h.lv.nR
 ·simp only[Value.ownBlock,ne_eq,Option.some.injEq];exact hne P lP h.lv.nP
 ·intro k hk e
  simp only[Value.ownBlock,Option.some.injEq]at hk
  exact hne k (owns_lt h.rg.own e) (fun e2=>h.lv.no k e2 e) hk
 ·intro k hk
  simp only[Value.ownBlock,Option.some.injEq]at hk
  subst hk
  rcases hat with e'|e'
  ·exact h.lv.nH g e'
  ·cases hh:H' g with
   |none=>rfl
   |some a=>have:=h.rg.fin.lt hh;omega
 ·intro k hk
  simp only[Value.ownBlock,Option.some.injEq]at hk
  subst hk
  rcases hat with e'|e'
  ·exact h.rn g e'
  ·omega
theorem RI.last{b d b0:Nat}{it it0:It}{g n cap:Nat}(h:RI w0 w R P s H H' vo vo' (.slice (some ⟨g,0,none⟩) n cap) τ (bs++ [b0]) (its++ [it0]))(hn:n=its.length+1)(hb:RItemOk H' d b it):
  RI w0 (w.setCell ⟨g,its.length,none⟩ (ptr b)) R P s H H' vo vo' (.slice (some ⟨g,0,none⟩) n cap) τ (bs++ [b]) (its++ [it]):=by
 subst hn
 obtain⟨bs',b',e1,e2,e3⟩:=h.lv.all.unsnoc
 have e4:=List.append_inj_left' e1 rfl
 subst e4
 have hlen:=e2.length
 have hg0:w0.heap.size<=g:=h.rn g rfl
 refine⟨h.rg.set g _ _ (fun e=>h.lv.nR (by rw[<-e];rfl)) (fun e=>h.lv.nP (by rw[<-e];rfl)) (h.lv.no g rfl) (h.lv.nH g rfl),h.kp.setNew g _ hg0 _,h.hg,⟨?_,e2.snoc ⟨d,hb⟩,h.lv.nR,h.lv.nP,h.lv.no,h.lv.nH⟩,h.rn⟩
 have:=h.lv.own
 rw[List.length_append,List.length_singleton,List.map_append]at this
 have:=owns_store (ps:=bs.map ptr) (zs:= [ptr b0]) (cs:= [ptr b]) (bs:= []) (k:=its.length) (by rw[List.append_nil];exact this) (by rw[List.length_map];exact hlen) rfl
 rw[List.append_nil]at this
 rw[List.length_append,List.length_singleton,List.map_append]
 exact this
theorem times_at{q d:Nat}{qi:It}{m n:Int}(h:Rg w R P s H' vo' τ)(hq:RItemOk H' d q qi)(hm:0<=m/\m<=20)(hn: -1<=n/\n<=20)(hmn:n= -1\/m<=n)(hs:1<=tmSz m n qi.2/\tmSz m n qi.2<=21001):
  ItPost w (w.alloc (.cells (itC ⟨#[116,105,109,101,115]⟩ 0 (some ⟨q,0,none⟩) m n) 102)) R P s H' vo' τ w.heap.size ⟨5,tmSz m n qi.2,.rep m n qi.3⟩:=by
 obtain⟨n1,n2,n3,n4⟩:=h.new
 have hmono:∀g a,H' g=some a->(fun k=>if k=w.heap.size then some (itC ⟨#[116,105,109,101,115]⟩ 0 (some ⟨q,0,none⟩) m n)else H' k) g=some a:=by
  intro g a hg
  by_cases e:g=w.heap.size
  ·subst e;rw[n4]at hg;cases hg
  ·simp[e];exact hg
 refine⟨_,vo',(h.alloc _).finish w.heap.size _ true (heap_alloc_last _ _) n4 n1 n2 n3,(Rkp.refl _ _ _ _).alloc _,⟨hmono,fun g hg=>?_⟩,d+1,_,by simp;rfl,itC_size _ _ _ _ _,hs.1,by show tmSz m n qi.2<=2000000;omega,.inr (.inr ⟨rfl,itC_0 _ _ _ _ _,q,qi,m,n,itC_259 _ _ _ _ _,itC_260 _ _ _ _ _,itC_261 _ _ _ _ _,hm.1,hm.2,hn.1,hn.2,hq.mono hmono,rfl,rfl,hmn⟩)⟩
 by_cases e:g=w.heap.size
 ·exact .inr (by omega)
 ·simp[e]at hg;exact .inl hg
theorem RItemOk.is{d b:Nat}{it:It}(h:RItemOk H' d b it)(hf:RFin w H')(hne:it.1≠1):∃is,w.cell? ⟨b,0,none⟩=some (.string is)/\(is==(⟨#[36]⟩:ByteArray))=(it.1==2):=by
 cases d with
 |zero=>exact h.elim
 |succ d=>
  obtain⟨arr,h1,h2,_,_,h⟩:=h
  rcases h with⟨is,ha,hk,_⟩|⟨e,ha,_⟩|⟨e,ha,_⟩
  ·refine⟨is,hf.cell h1 ha,?_⟩
   rcases hk with⟨e,rfl⟩|⟨e,rfl⟩|⟨e,rfl⟩|⟨e,rfl⟩
   ·rw[e];decide
   ·exact absurd e hne
   ·rw[e];decide
   ·rw[e];decide
  ·exact⟨_,hf.cell h1 ha,by rw[e];decide⟩
  ·exact⟨_,hf.cell h1 ha,by rw[e];decide⟩
def KIn(l:List UInt8)(j:Nat)(its:List It)(can:Bool)(σ':St):Prop:=RelL σ'.inner.items its/\canB σ'.inner.items=can/\(σ'.inner.items= []->sw l j [94]=false)
structure AtA(l:List UInt8)(σ0 σ':St)(j:Nat)(τ:RSt)(its:List It)(can:Bool):Prop where
 re:Reach l σ0 σ'
 sim:Sim σ' τ
 pos:σ'.pos=j
 outer:σ'.outer=σ0.outer
 num:σ'.inner.number=σ0.inner.number
 start:σ'.inner.start=σ0.inner.start
 rel:RelL σ'.inner.items its
 can:canB σ'.inner.items=can
 car:σ'.inner.items= []->sw l j [94]=false
theorem AtA.res{l:List UInt8}{σ0 σ':St}{j:Nat}{can:Bool}(h:AtA l σ0 σ' j τ its can):Res l σ0 j τ (KIn l j its can):=
 .inl ⟨σ',h.re,h.sim,h.pos,h.outer,h.num,h.start,h.rel,h.can,h.car⟩
theorem AtA.shut{l:List UInt8}{σ0 σ':St}{j:Nat}{can:Bool}(h:AtA l σ0 σ' j τ its can)(hc:j<l.length->sw l j [92,41]=true):Res l σ0 j τ (KRow l j its):=
 .inl ⟨σ',h.re,h.sim,h.pos,h.outer,h.num,h.start,h.rel,hc⟩
theorem AtA.item{l:List UInt8}{σ0 σ':St}{j j2:Nat}{it:It}{can:Bool}(h:AtA l σ0 σ' j τ its can)(hr:Res l σ' j2 τ2 (KIt σ' it))(h1:it.1≠1):Res l σ0 j2 τ2 (KIn l j2 (its++ [it]) (!(it.1==2))):=by
 rcases hr with⟨σ2,k1,k2,k3,k4,k5,k6,x,k7,k8,k9,k10,k11⟩|⟨σ2,k1,k2,k3,k4,k5⟩|⟨k1,k2⟩
 ·refine .inl ⟨σ2,h.re.trans k1,k2,k3,k4.trans h.outer,k5.trans h.num,k6.trans h.start,?_,?_,fun e=>?_⟩
  ·rw[k7];exact h.rel.snoc k8 k9 k10 k11
  ·rw[k7,canB_snoc,k8.1]
   have:(it.1 !=1)=true:=by simpa using h1
   rw[this,Bool.true_and];rfl
  ·rw[k7]at e;simp at e
 ·exact .inr (.inl ⟨σ2,h.re.trans k1,k2,k3,k4,by rw[h.outer]at k5;exact k5⟩)
 ·exact .inr (.inr ⟨k1,h.re.fails k2⟩)
theorem Sim.rep{σ':St}(h:Sim σ' τ)(q:Nat)(a b:Int):Sim {σ' with pos:=q,inner:= {σ'.inner with items:=repL σ'.inner.items a b}} τ:=
 ⟨h.done,h.used,by rw[h.opens];simp[opn],h.groups,h.err,h.g9,h.cl,h.rf,h.r2,h.num,h.nums,h.ol⟩
theorem AtA.rep{l:List UInt8}{σ0 σ':St}{j k:Nat}{it0:It}{m n:Int}(h:AtA l σ0 σ' j τ (its++ [it0]) true)(hj:j<l.length)(hjk:j<k)(hst:stepT l σ'=(0,{σ' with pos:=k,inner:= {σ'.inner with items:=repL σ'.inner.items m n}}))(hm:0<=m/\m<=20)(hn: -1<=n/\n<=20):
  ∃σ2,AtA l σ0 σ2 k τ (its++ [⟨5,tmSz m n it0.2,.rep m n it0.3⟩]) true:=by
 obtain⟨a,x,e,r1,r2,r3,r4,r5⟩:=h.rel.unsnoc
 have ht:=relSz_times r3 r4 r5 hm hn
 have hp:=h.pos
 refine⟨_,h.re.trans (Reach.step (by omega) hst (by show σ'.pos<k;omega)),h.sim.rep k m n,rfl,h.outer,h.num,h.start,?_,?_,fun e2=>?_⟩
 ·show RelL (repL σ'.inner.items m n) _
  rw[e,repL_snoc]
  exact RelL.snoc (x:=itRep m n x) (y:=⟨5,tmSz m n it0.2,.rep m n it0.3⟩) ⟨rfl,by show Tr.rep m n x.3=Tr.rep m n it0.3;rw[r2.2]⟩ ht.1 ht.2.1 ht.2.2.1 r1
 ·show canB (repL σ'.inner.items m n)=true
  rw[e,repL_snoc,canB_snoc];rfl
 ·have e3:repL σ'.inner.items m n= []:=e2
  rw[e,repL_snoc]at e3;simp at e3
theorem AtA.tm{l:List UInt8}{σ0 σ':St}{j:Nat}{it0:It}{can:Bool}{m n:Int}(h:AtA l σ0 σ' j τ (its++ [it0]) can)(hm:0<=m/\m<=20)(hn: -1<=n/\n<=20):1<=tmSz m n it0.2/\tmSz m n it0.2<=21001:=by
 obtain⟨a,x,e,r1,r2,r3,r4,r5⟩:=h.rel.unsnoc
 exact(relSz_times r3 r4 r5 hm hn).2.2
theorem AtA.some{l:List UInt8}{σ0 σ':St}{j:Nat}(h:AtA l σ0 σ' j τ its true):∃is it0,its=is++ [it0]:=by
 rcases list_snoc its with e|h2
 ·have:=h.rel.length
  rw[e]at this
  have e2:σ'.inner.items= []:=List.length_eq_zero_iff.1 this
  have:=h.can
  rw[e2]at this;cases this
 ·exact h2
theorem AtA.err{l:List UInt8}{σ0 σ':St}{j e p:Nat}{can:Bool}{K:St->Prop}(h:AtA l σ0 σ' j τ its can)(hj:j<l.length)(he:e≠0)(hst:stepT l σ'=(e,σ'))(h1:τ2.err=e)(h2:τ2.pl=j):Res l σ0 p τ2 K:=
 .inr (.inr ⟨by rw[h1];exact he,by rw[h1,h2];exact h.re.fails (Fails.step (by have:=h.pos;omega) hst he h.pos)⟩)
theorem sumSz_last(its:List It)(it:It):sumSz ((its++ [it]).map (·.2))=sumSz (its.map (·.2))+it.2:=by
 rw[List.map_append,List.map_singleton];exact sumSz_snoc _ _
end
end Go.Proofs.YtldiemjlpnachaaGreatDoor
namespace Go.Proofs.YtldiemjlpnachaaGreatDoor
open Go.RowKit
theorem goT_reach{l:List UInt8}{σ':St}(h:Reach l st0 σ')(hp:σ'.pos<=60):∃f,goT l 61 st0=goT l (f+1) σ':=by
 obtain⟨n,h1,h2⟩:=h
 have h3:n<=σ'.pos:=Nat.le_trans (Nat.le_add_right _ _) h1
 refine⟨60-n,?_⟩
 rw[<-h2,show n+(60-n+1)=61 by omega]
def RdC(l:List UInt8)(τ:RSt)(j:Nat)(sum:Int)(ts:List Tr):Prop:=
 (τ.err=0/\j<l.length/\τ.opens= []/\parseT l=(8,j,0))\/
 (τ.err=0/\j=l.length/\τ.opens= []/\200<sum/\parseT l=(12,0,0))\/
 (τ.err=0/\j=l.length/\τ.opens= []/\¬200<sum/\parseT l=(0,0,τ.groups)/\ts=(itsT l).map (·.3)/\∀i,i<10->τ.used i=(refT0 l).contains i)\/
 (τ.err=0/\j=l.length/\(∃os x,τ.opens=os++ [x]/\parseT l=(11,x,0)))\/
 (τ.err≠0/\parseT l=(τ.err,τ.pl,0))
theorem close_none{l:List UInt8}{σ2:St}(hw:sw l σ2.pos [92,41]=true)(ho:σ2.outer= []):stepT l σ2=(8,σ2):=by
 rw[sw2]at hw
 simp only[Bool.and_eq_true,decide_eq_true_eq,beq_iff_eq]at hw
 obtain⟨⟨h1,h2⟩,h3⟩:=hw
 have h2':ch l σ2.pos=92:=h2
 have h3':ch l (σ2.pos+1)=41:=h3
 unfold stepT
 rw[if_pos h2']
 unfold escT
 rw[if_neg (by omega),if_neg (by omega),if_pos h3']
 unfold closeT
 rw[ho]
 rfl
theorem opn_nil{σ:St}(h:σ.outer= []):opn σ= []:=by unfold opn;rw[h];rfl
theorem opn_last{σ:St}(h:0<σ.outer.length):∃os,opn σ=os++ [σ.inner.start]:=by
 unfold opn
 cases ho:σ.outer with
 |nil=>rw[ho]at h;cases h
 |cons a r=>exact⟨r.map (·.start),by simp⟩
theorem rd_cases{l:List UInt8}{τ:RSt}{j:Nat}{its:List It}(hl:l.length<=60)(hlf:lfT l=none)(hj:j<=l.length)(hres:Res l st0 j τ (KRow l j its)):RdC l τ j (1+sumSz (its.map (·.2))) (its.map (·.3)):=by
 rcases hres with⟨σ',h1,h2,h3,h4,h5,h6,h7⟩|⟨σ',h1,h2,h3,h4,h5⟩|⟨h1,n,h2,h3⟩
 ·obtain⟨f,hf⟩:=goT_reach h1 (by omega)
  have ho:σ'.outer= []:=h4
  have hop:τ.opens= []:=h2.opens.trans (opn_nil ho)
  by_cases hjl:j<l.length
  ·have hsw:=h7.2 hjl
   rw[<-h3]at hsw
   have hst:=close_none hsw ho
   refine .inl ⟨h2.err,hjl,hop,?_⟩
   unfold parseT
   rw[hf,goT_err (by omega) (by rw[hst];exact fun e=>by cases e),hst,parseR_err (by omega) hlf (fun e=>by cases e),h3]
  ·have hg:goT l 61 st0=(0,σ'):=by rw[hf];exact goT_out (by omega)
   have hz:=h7.1.rowSz
   by_cases hb:200<rowSz (σ'.inner.items.map (·.2))
   ·refine .inr (.inl ⟨h2.err,by omega,hop,by unfold relSz at hz;omega,?_⟩)
    unfold parseT;rw[hg];exact parseR_big (by omega) hlf ho hb
   ·refine .inr (.inr (.inl ⟨h2.err,by omega,hop,by unfold relSz at hz;omega,?_,?_,?_⟩))
    ·unfold parseT;rw[hg,h2.groups];exact parseR_ok (by omega) hlf ho hb
    ·unfold itsT;rw[hg];exact h7.1.trees.symm
    ·intro i hi
     unfold refT0 refR
     rw[hg,parseR_ok (by omega) hlf ho hb,if_pos rfl]
     exact h2.used i hi
 ·obtain⟨f,hf⟩:=goT_reach h1 (by omega)
  have hg:goT l 61 st0=(0,σ'):=by rw[hf];exact goT_out (by omega)
  obtain⟨os,hos⟩:=opn_last (σ:=σ') (Nat.lt_of_le_of_lt (Nat.zero_le _) h5)
  refine .inr (.inr (.inr (.inl ⟨h2.err,h4,os,σ'.inner.start,h2.opens.trans hos,?_⟩)))
  unfold parseT;rw[hg]
  refine parseR_open (by omega) hlf (fun e=>?_)
  rw[e]at h5;exact absurd h5 (Nat.not_lt_zero _)
 ·have h2':n<l.length:=Nat.lt_of_le_of_lt (Nat.le_add_right _ _) h2
  have:=h3 (60-n)
  rw[show n+1+(60-n)=61 by omega]at this
  refine .inr (.inr (.inr (.inr ⟨h1,?_⟩)))
  unfold parseT
  rw[parseR_err (by omega) hlf (by rw[this.1];exact h1),this.1,this.2]
def τ0:RSt:=⟨fun _=>false,fun _=>false,[],0,0,0⟩
theorem sim0:Sim st0 τ0 where
 done:=fun _ _=>rfl
 used:=fun _ _=>rfl
 opens:=rfl
 groups:=rfl
 err:=rfl
 g9:=Nat.zero_le _
 cl:=fun n hn=>by cases hn
 rf:=rfl
 r2:=Nat.zero_le _
 num:=Nat.le_refl _
 nums:=fun r hr=>by cases hr
 ol:=Nat.le_refl _
theorem Rkp.below{a w:World}{R P base:Nat}{v:Value}(h:Rkp a w R P (.slice none 0 0) v)(hR:base<=R)(hP:base<=P)(hb:base<=a.heap.size):Below base a w:=
 ⟨h.os,h.tape,h.output,h.size,fun k hk=>h.block k (by omega) (by omega) (by omega) (by simp[Value.ownBlock])⟩
theorem decode_skip(s:ByteArray)(i:Nat):1<=(Utf8.decode s i).2/\∀k,1<=k->k<(Utf8.decode s i).2->i+k<s.size/\128<=(s.get! (i+k)).toNat:=by
 unfold Utf8.decode
 simp only[]
 split
 ·exact⟨Nat.le_refl _,fun k h1 h2=>by simp at h2;omega⟩
 ·split
  ·rename_i h
   simp only[Bool.and_eq_true,decide_eq_true_eq,beq_iff_eq]at h
   split
   ·refine⟨by simp,fun k h1 h2=>?_⟩
    obtain rfl:k=1:=by simp at h2;omega
    exact⟨h.2.1,by have:=h.2.2;omega⟩
   ·exact⟨Nat.le_refl _,fun k h1 h2=>by simp at h2;omega⟩
  ·split
   ·rename_i h
    simp only[Bool.and_eq_true,decide_eq_true_eq,beq_iff_eq]at h
    split
    ·refine⟨by simp,fun k h1 h2=>?_⟩
     have h2':k<3:=h2
     rcases(show k=1\/k=2 by omega)with rfl|rfl
     ·exact⟨h.1.2.1,by have:=h.1.2.2;omega⟩
     ·exact⟨h.2.1,by have:=h.2.2;omega⟩
    ·exact⟨Nat.le_refl _,fun k h1 h2=>by simp at h2;omega⟩
   ·split
    ·rename_i h
     simp only[Bool.and_eq_true,decide_eq_true_eq,beq_iff_eq]at h
     split
     ·refine⟨by simp,fun k h1 h2=>?_⟩
      have h2':k<4:=h2
      rcases(show k=1\/k=2\/k=3 by omega)with rfl|rfl|rfl
      ·exact⟨h.1.1.2.1,by have:=h.1.1.2.2;omega⟩
      ·exact⟨h.1.2.1,by have:=h.1.2.2;omega⟩
      ·exact⟨h.2.1,by have:=h.2.2;omega⟩
     ·exact⟨Nat.le_refl _,fun k h1 h2=>by simp at h2;omega⟩
    ·exact⟨Nat.le_refl _,fun k h1 h2=>by simp at h2;omega⟩
theorem no_lf{s:ByteArray}{i:Nat}(h:∀j,j<i->ch s.data.toList j≠10)(hi:i<s.size)(hc:ch s.data.toList i≠10):(∀j,j<i+(Utf8.decode s i).2->ch s.data.toList j≠10)/\i<i+(Utf8.decode s i).2/\i+(Utf8.decode s i).2<=s.size:=by
 have hd:=decode_skip s i
 refine⟨fun j hj=>?_,by omega,?_⟩
 ·rcases Nat.lt_or_ge j i with h1|h1
  ·exact h j h1
  ·by_cases e:j=i
   ·rw[e];exact hc
   ·have:=hd.2 (j-i) (by omega) (by omega)
    rw[show i+(j-i)=j by omega]at this
    rw[<-ch_get s j this.1]
    have e2:s.get! j=s[j]'this.1:=by simp[ByteArray.get!,this.1];rfl
    rw[e2]at this
    omega
 ·by_cases e:(Utf8.decode s i).2=1
  ·omega
  ·have:=hd.2 ((Utf8.decode s i).2-1) (by omega) (by omega)
   omega
end Go.Proofs.YtldiemjlpnachaaGreatDoor

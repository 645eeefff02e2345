import Derived.Test.YtldiemjlpnachaaGreatDoorOwn
import Derived.Test.YtldiemjlpnachaaGreatDoorFr
set_option maxHeartbeats 1600000
set_option maxRecDepth 100000
namespace Go.Proofs.YtldiemjlpnachaaGreatDoor
open Go.RowKit
structure Rw where
 number:Nat
 start:Nat
 items:List It
structure St where
 pos:Nat
 inner:Rw
 outer:List Rw
 groups:Nat
 closed:Nat->Bool
 refl:List Nat
def St.referred(σ:St)(i:Nat):Bool:=σ.refl.contains i
def St.refs(σ:St):Nat:=σ.refl.length
theorem RowFin.mono{P Q:List Value->It->Prop}{H H':Fins}{ra:Option Addr}{rn:Nat}{its:List It}(h:RowFin P H ra rn its)(hP:∀c i,P c i->Q c i)(hH:∀g arr,H g=some arr->H' g=some arr):RowFin Q H' ra rn its:=by
 obtain⟨h1,h2,h3⟩:=h
 refine⟨h1,h2,?_⟩
 rcases h3 with h3|⟨g,arr,e,hg,hi⟩
 ·exact .inl h3
 ·exact .inr ⟨g,arr,e,hH g arr hg,fun i hi'=>hP _ _ (hi i hi')⟩
theorem ItemOk.mono{H H':Fins}(hH:∀g arr,H g=some arr->H' g=some arr):∀ {d:Nat} {cs:List Value} {it:It},ItemOk H d cs it->ItemOk H' d cs it
 |0,_,_,h=>h.elim
 |d+1,_,_,⟨a,num,least,most,ra,rn,rc,e,k0,k1,s0,s1,h⟩=>by
  refine⟨a,num,least,most,ra,rn,rc,e,k0,k1,s0,s1,?_⟩
  rcases h with⟨h4,its,hR,hs⟩|⟨h5,l0,l1,m0,m1,x,hR,hs⟩|h
  ·exact .inl ⟨h4,its,hR.mono (fun _ _=>ItemOk.mono hH) hH,hs⟩
  ·exact .inr (.inl ⟨h5,l0,l1,m0,m1,x,hR.mono (fun _ _=>ItemOk.mono hH) hH,hs⟩)
  ·exact .inr (.inr h)
theorem ItemOk.succ{H:Fins}:∀ {d:Nat} {cs:List Value} {it:It},ItemOk H d cs it->ItemOk H (d+1) cs it
 |0,_,_,h=>h.elim
 |d+1,_,_,⟨a,num,least,most,ra,rn,rc,e,k0,k1,s0,s1,h⟩=>by
  refine⟨a,num,least,most,ra,rn,rc,e,k0,k1,s0,s1,?_⟩
  rcases h with⟨h4,its,hR,hs⟩|⟨h5,l0,l1,m0,m1,x,hR,hs⟩|h
  ·exact .inl ⟨h4,its,hR.mono (fun _ _=>ItemOk.succ) (fun _ _ h=>h),hs⟩
  ·exact .inr (.inl ⟨h5,l0,l1,m0,m1,x,hR.mono (fun _ _=>ItemOk.succ) (fun _ _ h=>h),hs⟩)
  ·exact .inr (.inr h)
theorem ItemOk.le{H:Fins}{d:Nat}{cs:List Value}{it:It}(h:ItemOk H d cs it):∀k,ItemOk H (d+k) cs it
 |0=>h
 |k+1=>(ItemOk.le h k).succ
theorem ItemOk.len{H:Fins}:∀ {d:Nat} {cs:List Value} {it:It},ItemOk H d cs it->cs.length=13
 |0,_,_,h=>h.elim
 |_+1,_,_,⟨_,_,_,_,_,_,_,e,_⟩=>by rw[e];rfl
theorem ItemOk.kind{H:Fins}:∀ {d:Nat} {cs:List Value} {it:It},ItemOk H d cs it->cs[0]?=some (.int .i64 it.1)/\0<=it.1/\it.1<=5
 |0,_,_,h=>h.elim
 |_+1,_,_,⟨_,_,_,_,_,_,_,e,k0,k1,_⟩=>by rw[e];exact⟨rfl,k0,k1⟩
theorem ItemOk.oneCell{H:Fins}:∀ {d:Nat} {cs:List Value} {it:It},ItemOk H d cs it->∃a num least most ra rn rc,cs=cellsOf it.1 a num least most ra rn rc
 |0,_,_,h=>h.elim
 |_+1,_,_,⟨a,num,least,most,ra,rn,rc,e,_⟩=>⟨a,num,least,most,ra,rn,rc,e⟩
def AllOk(H:Fins):List (List Value)->List It->Prop
 | [],[]=>True
 |c::cs,i::is=>(∃d,ItemOk H d c i)/\AllOk H cs is
 |_,_=>False
theorem AllOk.length{H:Fins}:∀ {cs:List (List Value)} {is:List It},AllOk H cs is->cs.length=is.length
 | [],[],_=>rfl
 |_::_,_::_,h=>by rw[List.length_cons,List.length_cons,AllOk.length h.2]
 | [],_::_,h=>h.elim
 |_::_,[],h=>h.elim
theorem AllOk.mono{H H':Fins}(hH:∀g arr,H g=some arr->H' g=some arr):∀ {cs:List (List Value)} {is:List It},AllOk H cs is->AllOk H' cs is
 | [],[],_=>trivial
 |_::_,_::_,⟨⟨d,h⟩,r⟩=>⟨⟨d,h.mono hH⟩,AllOk.mono hH r⟩
 | [],_::_,h=>h.elim
 |_::_,[],h=>h.elim
theorem AllOk.snoc{H:Fins}{c:List Value}{i:It}(hc:∃d,ItemOk H d c i):∀ {cs:List (List Value)} {is:List It},AllOk H cs is->AllOk H (cs++ [c]) (is++ [i])
 | [],[],_=>⟨hc,trivial⟩
 |_::_,_::_,h=>⟨h.1,AllOk.snoc hc h.2⟩
 | [],_::_,h=>h.elim
 |_::_,[],h=>h.elim
theorem AllOk.unsnoc{H:Fins}{i:It}:∀ {cs:List (List Value)} {is:List It},AllOk H cs (is++ [i])->∃cs' c,cs=cs'++ [c]/\AllOk H cs' is/\∃d,ItemOk H d c i
 | [],[],h=>h.elim
 | [],_::_,h=>h.elim
 | [c],[],h=>⟨[],c,rfl,trivial,h.1⟩
 |_::_::_,[],h=>h.2.elim
 |c::cs,j::is,h=>by
  obtain⟨cs',c',rfl,h1,h2⟩:=AllOk.unsnoc (cs:=cs) (is:=is) h.2
  exact⟨c::cs',c',rfl,⟨h.1,h1⟩,h2⟩
theorem AllOk.flat{H:Fins}:∀ {cs:List (List Value)} {is:List It},AllOk H cs is->cs.flatten.length=is.length*13
 | [],[],_=>rfl
 |c::cs,i::is,⟨⟨_,h⟩,r⟩=>by rw[List.flatten_cons,List.length_append,h.len,AllOk.flat r,List.length_cons];omega
 | [],_::_,h=>h.elim
 |_::_,[],h=>h.elim
theorem AllOk.deep{H:Fins}:∀ {cs:List (List Value)} {is:List It},AllOk H cs is->∃D,∀i (h:i<is.length),ItemOk H D ((cs.flatten.drop (i*13)).take 13) is[i]
 | [],[],_=>⟨0,fun i h=>absurd h (by simp)⟩
 |c::cs,j::is,⟨⟨d,h⟩,r⟩=>by
  obtain⟨D,hD⟩:=AllOk.deep r
  refine⟨d+D,fun i hi=>?_⟩
  cases i with
  |zero=>
   rw[List.flatten_cons,Nat.zero_mul,List.drop_zero,List.take_append_of_le_length (by rw[h.len];omega),List.take_of_length_le (by rw[h.len];omega)]
   exact h.le D
  |succ i=>
   rw[List.flatten_cons,show(i+1)*13=c.length+i*13 by rw[h.len];omega,List.drop_append,List.drop_eq_nil_of_le (by omega),List.nil_append,show c.length+i*13-c.length=i*13 by omega,Nat.add_comm d D]
   exact(hD i (by simpa using hi)).le d
 | [],_::_,h=>h.elim
 |_::_,[],h=>h.elim
def Live(w:World)(base:Nat)(H:Fins)(v:Value)(its:List It):Prop:=
 ∃cs,AllOk H cs its/\w.ownsRow base 119 13 v its.length cs.flatten
theorem owns_same{w w':World}{base e size n:Nat}{v:Value}{xs:List Value}(h:w.ownsRow base e size v n xs)(hk:∀k,v.ownBlock=some k->w'.heap[k]?=w.heap[k]?):w'.ownsRow base e size v n xs:=by
 obtain⟨h1,h2⟩:=h
 refine⟨h1,?_⟩
 rcases h2 with h2|⟨g,cap,cur,rfl,hb,hg,r⟩
 ·exact .inl h2
 ·exact .inr ⟨g,cap,cur,rfl,hb,by rw[hk g rfl];exact hg,r⟩
theorem Live.same{w w':World}{base:Nat}{H:Fins}{v:Value}{its:List It}(h:Live w base H v its)(hk:∀k,v.ownBlock=some k->w'.heap[k]?=w.heap[k]?):Live w' base H v its:=by
 obtain⟨cs,h1,h2⟩:=h
 exact⟨cs,h1,owns_same h2 hk⟩
theorem Live.mono{w:World}{base:Nat}{H H':Fins}{v:Value}{its:List It}(h:Live w base H v its)(hH:∀g arr,H g=some arr->H' g=some arr):Live w base H' v its:=by
 obtain⟨cs,h1,h2⟩:=h
 exact⟨cs,h1.mono hH,h2⟩
theorem Live.shape{w:World}{base:Nat}{H:Fins}{v:Value}{its:List It}(h:Live w base H v its):∃ao cp,v= .slice ao its.length cp:=by
 obtain⟨cs,_,h2⟩:=h
 rcases h2.2 with⟨rfl,h0⟩|⟨g,cap,_,rfl,_⟩
 ·exact⟨none,0,by rw[h0]⟩
 ·exact⟨_,_,rfl⟩
def outCells:List Rw->List Value->List Value
 |r::rs,v::vs=> .int .i64 r.number:: .int .i64 r.start::v::outCells rs vs
 |_,_=> []
def OutOk(w:World)(base:Nat)(H:Fins):List Value->List Rw->Prop
 | [],[]=>True
 |v::vs,r::rs=>Live w base H v r.items/\OutOk w base H vs rs
 |_,_=>False
theorem OutOk.same{w w':World}{base:Nat}{H:Fins}:∀ {vs:List Value} {rs:List Rw},OutOk w base H vs rs->(∀v∈vs,∀k,v.ownBlock=some k->w'.heap[k]?=w.heap[k]?)->OutOk w' base H vs rs
 | [],[],_,_=>trivial
 |v::vs,_::_,h,hk=>⟨h.1.same (hk v (by simp)),OutOk.same h.2 (fun u hu=>hk u (by simp[hu]))⟩
 | [],_::_,h,_=>h.elim
 |_::_,[],h,_=>h.elim
theorem OutOk.mono{w:World}{base:Nat}{H H':Fins}(hH:∀g arr,H g=some arr->H' g=some arr):∀ {vs:List Value} {rs:List Rw},OutOk w base H vs rs->OutOk w base H' vs rs
 | [],[],_=>trivial
 |_::_,_::_,h=>⟨h.1.mono hH,OutOk.mono hH h.2⟩
 | [],_::_,h=>h.elim
 |_::_,[],h=>h.elim
theorem OutOk.snoc{w:World}{base:Nat}{H:Fins}{v:Value}{r:Rw}(hv:Live w base H v r.items):∀ {vs:List Value} {rs:List Rw},OutOk w base H vs rs->OutOk w base H (vs++ [v]) (rs++ [r])
 | [],[],_=>⟨hv,trivial⟩
 |_::_,_::_,h=>⟨h.1,OutOk.snoc hv h.2⟩
 | [],_::_,h=>h.elim
 |_::_,[],h=>h.elim
theorem OutOk.unsnoc{w:World}{base:Nat}{H:Fins}{r:Rw}:∀ {vs:List Value} {rs:List Rw},OutOk w base H vs (rs++ [r])->∃vs' v,vs=vs'++ [v]/\OutOk w base H vs' rs/\Live w base H v r.items
 | [],[],h=>h.elim
 | [],_::_,h=>h.elim
 | [v],[],h=>⟨[],v,rfl,trivial,h.1⟩
 |_::_::_,[],h=>h.2.elim
 |v::vs,q::rs,h=>by
  obtain⟨vs',v',rfl,h1,h2⟩:=OutOk.unsnoc (vs:=vs) (rs:=rs) h.2
  exact⟨v::vs',v',rfl,⟨h.1,h1⟩,h2⟩
theorem OutOk.length{w:World}{base:Nat}{H:Fins}:∀ {vs:List Value} {rs:List Rw},OutOk w base H vs rs->vs.length=rs.length
 | [],[],_=>rfl
 |_::_,_::_,h=>by rw[List.length_cons,List.length_cons,OutOk.length h.2]
 | [],_::_,h=>h.elim
 |_::_,[],h=>h.elim
theorem outCells_snoc:∀ {rs:List Rw} {vs:List Value},vs.length=rs.length->∀(r:Rw) (v:Value),outCells (rs++ [r]) (vs++ [v])=outCells rs vs++ [.int .i64 r.number,.int .i64 r.start,v]
 | [],[],_,_,_=>rfl
 |_::rs,_::vs,h,r,v=>by simp[outCells,outCells_snoc (rs:=rs) (vs:=vs) (by simpa using h) r v]
 | [],_::_,h,_,_=>by simp at h
 |_::_,[],h,_,_=>by simp at h
theorem outCells_len:∀ {rs:List Rw} {vs:List Value},vs.length=rs.length->(outCells rs vs).length=rs.length*3
 | [],[],_=>rfl
 |_::rs,_::vs,h=>by simp[outCells,outCells_len (rs:=rs) (vs:=vs) (by simpa using h)];omega
 | [],_::_,h=>by simp at h
 |_::_,[],h=>by simp at h
def Apart(H:Fins)(vs:List Value):Prop:=(vs.filterMap Value.ownBlock).Nodup/\∀b∈vs.filterMap Value.ownBlock,H b=none
theorem info_int:(Tryz.prog.info? 3).map (fun i=>(i.zero,i.size,i.bytes))=some (some (.int .i64 0),1,8):=by kernel_rfl
theorem uInts:Tryz.prog.underlying 48=some (.slice 3):=by kernel_rfl
def ints(rl:List Nat):List Value:=rl.map fun(n:Nat)=>Value.int .i64 (n:Int)
def RfOk(w:World)(base R:Nat)(rl:List Nat):Prop:=∃v,w.cell? ⟨R,17,none⟩=some v/\w.ownsRow base 3 1 v rl.length (ints rl)
theorem owns_shape{w:World}{base e size:Nat}{v:Value}{n:Nat}{xs:List Value}(h:w.ownsRow base e size v n xs):∃ao cp,v= .slice ao n cp:=by
 rcases h.2 with⟨rfl,h0⟩|⟨g,cap,_,rfl,_⟩
 ·exact⟨none,0,by rw[h0]⟩
 ·exact⟨_,_,rfl⟩
theorem owns_typ{w:World}{base e size n k:Nat}{v:Value}{xs:List Value}(h:w.ownsRow base e size v n xs)(hk:v.ownBlock=some k):∃cur,w.heap[k]?=some (.cells cur e (0,0)):=by
 rcases h.2 with⟨rfl,_⟩|⟨g,cap,cur,rfl,_,hg,_⟩
 ·simp[Value.ownBlock]at hk
 ·simp[Value.ownBlock]at hk
  subst hk
  exact⟨cur,hg⟩
theorem RfOk.ch{w W:World}{base R:Nat}{rl:List Nat}{row:Option Nat}{pl:List Nat}(h:RfOk w base R rl)(hch:Ch w W R row pl)(h17:17 ∉ pl)(hR:R<base)(hrow:∀k,row=some k->∃cur e,w.heap[k]?=some (.cells cur e (0,0))/\e≠3):RfOk W base R rl:=by
 obtain⟨v,hv,ho⟩:=h
 refine⟨v,(hch.cell 17 h17).trans hv,owns_same ho (fun k hk=>hch.block k (ho.lt k hk).2 (by have:=(ho.lt k hk).1;omega) (fun e=>?_))⟩
 obtain⟨c1,h1⟩:=owns_typ ho hk
 obtain⟨c2,e2,h2,h3⟩:=hrow k e.symm
 rw[h1]at h2
 cases h2
 exact h3 rfl
theorem RfOk.below{w W:World}{base R:Nat}{rl:List Nat}(h:RfOk w base R rl)(hb:Below w.heap.size w W):RfOk W base R rl:=by
 obtain⟨v,hv,ho⟩:=h
 exact⟨v,(hb.cell (World.block_lt_of_cell? w _ hv)).trans hv,owns_same ho (fun k hk=>hb.block k (ho.lt k hk).2)⟩
theorem RfOk.drew{w:World}{base R:Nat}{rl:List Nat}(h:RfOk w base R rl):RfOk w.drew base R rl:=h
structure Rd(w:World)(base R:Nat)(s:ByteArray)(H:Fins)(σ:St):Prop where
 hR:R<base
 hb:base<=w.heap.size
 c0:w.cell? ⟨R,0,none⟩=some (.string s)
 c1:w.cell? ⟨R,1,none⟩=some (.int .i64 σ.pos)
 c2:w.cell? ⟨R,2,none⟩=some (.int .i64 σ.inner.number)
 c3:w.cell? ⟨R,3,none⟩=some (.int .i64 σ.inner.start)
 c6:w.cell? ⟨R,6,none⟩=some (.int .i64 σ.groups)
 c7:∀i,i<10->w.cell? ⟨R,7+i,none⟩=some (.bool (σ.closed i))
 rf:RfOk w base R σ.refl
 fz:∀i,i<18->w.frozen? ⟨R,i,none⟩=false
 fin:Fin w H
 finb:∀g arr,H g=some arr->base<=g
 rows:∃vi vo rs,w.cell? ⟨R,4,none⟩=some vi/\w.cell? ⟨R,5,none⟩=some vo/\Live w base H vi σ.inner.items/\w.ownsRow base 80 3 vo σ.outer.length (outCells σ.outer rs)/\OutOk w base H rs σ.outer/\Apart H (vi::vo::rs)
end Go.Proofs.YtldiemjlpnachaaGreatDoor
namespace Go.Proofs.YtldiemjlpnachaaGreatDoor
open Go.RowKit
theorem OutOk.lt{w:World}{base:Nat}{H:Fins}:∀ {vs:List Value} {rs:List Rw},OutOk w base H vs rs->∀v∈vs,∀k,v.ownBlock=some k->base<=k/\k<w.heap.size
 | [],[],_,v,hv=>by simp at hv
 |u::vs,_::_,h,v,hv=>by
  rcases List.mem_cons.1 hv with rfl|hv
  ·obtain⟨cs,_,ho⟩:=h.1
   exact ho.lt
  ·exact OutOk.lt h.2 v hv
 | [],_::_,h,_,_=>h.elim
 |_::_,[],h,_,_=>h.elim
theorem Fin.lt{w:World}{H:Fins}(h:Fin w H){g:Nat}{arr:Array Value}(hg:H g=some arr):g<w.heap.size:=(Array.getElem?_eq_some_iff.1 (h g arr hg)).1
theorem mem_blocks{v:Value}{vs:List Value}{k:Nat}(hv:v∈vs)(hk:v.ownBlock=some k):k∈vs.filterMap Value.ownBlock:=List.mem_filterMap.2 ⟨v,hv,hk⟩
theorem Rd.put{w w':World}{base R:Nat}{s:ByteArray}{H:Fins}{σ:St}{vi vo:Value}{rs:List Value}{xs cs:List Value}{css:List (List Value)}{it:It}{p:Nat}
  (h:Rd w base R s H σ)(h5:w.cell? ⟨R,5,none⟩=some vo)(hcs:AllOk H css σ.inner.items)(hxs:xs=css.flatten)(ho:w.ownsRow base 80 3 vo σ.outer.length (outCells σ.outer rs))(hout:OutOk w base H rs σ.outer)(hap:Apart H (vi::vo::rs))
  (hok:∃d,ItemOk H d cs it)(hown0:w.ownsRow base 119 13 vi σ.inner.items.length xs)(hp:PutPost w w' R base vi σ.inner.items.length xs cs p):
  Rd w' base R s H {σ with pos:=p,inner:= {σ.inner with items:=σ.inner.items++ [it]}}:=by
 obtain⟨g,cap,e4,e1,hown,hat,hlt,hch⟩:=hp
 have hR:=h.hR
 have hb:=h.hb
 have cl:∀i,i≠1->i≠4->w'.cell? ⟨R,i,none⟩=w.cell? ⟨R,i,none⟩:=fun i h1 h4=>hch.cell i (by simp;omega)
 have others:∀v∈vo::rs,∀k,v.ownBlock=some k->base<=k/\k<w.heap.size:=by
  intro v hv k hk
  rcases List.mem_cons.1 hv with rfl|hv
  ·exact ho.lt k hk
  ·exact hout.lt v hv k hk
 have apart:∀v∈vo::rs,∀k,v.ownBlock=some k->some k≠vi.ownBlock:=by
  intro v hv k hk e
  have hn:=hap.1
  rw[List.filterMap_cons,<-e]at hn
  exact(List.nodup_cons.1 hn).1 (mem_blocks hv hk)
 have blk:∀v∈vo::rs,∀k,v.ownBlock=some k->w'.heap[k]?=w.heap[k]?:=by
  intro v hv k hk
  have:=others v hv k hk
  exact hch.block k this.2 (by omega) (apart v hv k hk)
 have hfb:∀k arr,H k=some arr->some k≠vi.ownBlock:=by
  intro k arr hk e
  have:=hap.2 k (mem_blocks (by simp) e.symm)
  rw[this]at hk
  cases hk
 have hfin:Fin w' H:=fun k arr hk=>by
  rw[hch.block k (h.fin.lt hk) (by have:=h.finb k arr hk;omega) (hfb k arr hk)]
  exact h.fin k arr hk
 refine⟨hR,Nat.le_trans hb hch.size,(cl 0 (by omega) (by omega)).trans h.c0,e1,(cl 2 (by omega) (by omega)).trans h.c2,(cl 3 (by omega) (by omega)).trans h.c3,(cl 6 (by omega) (by omega)).trans h.c6,
  fun i hi=>(cl _ (by omega) (by omega)).trans (h.c7 i hi),h.rf.ch hch (by simp) hR (fun k hk=>by obtain⟨cur,hc⟩:=owns_typ hown0 hk;exact⟨cur,_,hc,by decide⟩),fun i hi=>(hch.frozen i).trans (h.fz i hi),hfin,h.finb,?_⟩
 refine⟨_,vo,rs,e4,(cl 5 (by omega) (by omega)).trans h5,⟨css++ [cs],hcs.snoc hok,?_⟩,owns_same ho (blk vo (by simp)),hout.same (fun v hv=>blk v (by simp[hv])),?_⟩
 ·simp only[List.length_append,List.length_singleton,List.flatten_append,List.flatten_cons,List.flatten_nil,List.append_nil]
  rw[<-hxs]
  exact hown
 ·rcases hat with hat|hat
  ·unfold Apart at hap ⊢
   rw[List.filterMap_cons,hat]at hap
   exact hap
  ·have hnew:∀b∈(vo::rs).filterMap Value.ownBlock,b<w.heap.size:=by
    intro b hb'
    obtain⟨v,hv,hk⟩:=List.mem_filterMap.1 hb'
    exact(others v hv b hk).2
   have hrest:((vo::rs).filterMap Value.ownBlock).Nodup/\∀b∈(vo::rs).filterMap Value.ownBlock,H b=none:=by
    refine⟨?_,fun b hb'=>hap.2 b ?_⟩
    ·have hn:=hap.1
     rw[List.filterMap_cons]at hn
     split at hn
     ·exact hn
     ·exact(List.nodup_cons.1 hn).2
    ·rw[List.filterMap_cons]
     split
     ·exact hb'
     ·exact List.mem_cons_of_mem _ hb'
   have hgn:H g=none:=by
    cases hg:H g with
    |none=>rfl
    |some arr=>have:=h.fin.lt hg;omega
   refine⟨?_,?_⟩
   ·rw[List.filterMap_cons]
    exact List.nodup_cons.2 ⟨fun hm=>by have:=hnew g hm;omega,hrest.1⟩
   ·intro b hb'
    rw[List.filterMap_cons]at hb'
    rcases List.mem_cons.1 hb' with rfl|hb'
    ·exact hgn
    ·exact hrest.2 b hb'
theorem Rd.belowPut{w w':World}{base R:Nat}{s:ByteArray}{H:Fins}{σ:St}{vi:Value}{n:Nat}{xs ys cs:List Value}{p:Int}
  (h:Rd w base R s H σ)(hi:w.ownsRow base 119 13 vi n ys)(hp:PutPost w w' R base vi n xs cs p):Below R w w':=by
 obtain⟨g,cap,_,_,_,_,_,hch⟩:=hp
 have hR:=h.hR
 have hb:=h.hb
 exact hch.below (by omega) (fun k hk=>by have:=(hi.lt k hk).1;omega)
theorem put_rd{w:World}{base R:Nat}{s:ByteArray}{H:Fins}{σ:St}(h:Rd w base R s H σ)(wd:Nat)(hwd:wd<=2)(hp:σ.pos<=1000)(hn:σ.inner.items.length<=1000)
  (k a0 a1 a2 a3 a4 a5 a6 a7 num least most:Int)(ra:Option Addr)(rn rc:Nat)(it:It)(hok:∃d,ItemOk H d [.int .i64 k,.int .u32 a0,.int .u32 a1,.int .u32 a2,.int .u32 a3,.int .u32 a4,.int .u32 a5,.int .u32 a6,.int .u32 a7,.int .i64 num,.int .i64 least,.int .i64 most,.slice ra rn rc] it):
  Calls Tryz.prog 39 #[.pointer (some ⟨R,0,none⟩),.agg #[.int .i64 k,.int .u32 a0,.int .u32 a1,.int .u32 a2,.int .u32 a3,.int .u32 a4,.int .u32 a5,.int .u32 a6,.int .u32 a7,.int .i64 num,.int .i64 least,.int .i64 most,.slice ra rn rc],.int .i64 wd] w
   fun e w'=>e= .returned (.tuple #[])/\Rd w' base R s H {σ with pos:=σ.pos+wd,inner:= {σ.inner with items:=σ.inner.items++ [it]}}/\Below R w w':=by
 obtain⟨vi,vo,rs,h4,h5,hlive,ho,hout,hap⟩:=h.rows
 obtain⟨ao,cp,rfl⟩:=hlive.shape
 obtain⟨css,hcs,hown⟩:=hlive
 refine(put_any R σ.pos wd ao σ.inner.items.length cp base css.flatten w k a0 a1 a2 a3 a4 a5 a6 a7 num least most ra rn rc h.c1 h4 (h.fz 1 (by omega)) (h.fz 4 (by omega)) (by omega) (by omega) hown h.hb hn h.hR).mono ?_
 rintro e w' ⟨rfl,hp⟩
 refine⟨rfl,?_,h.belowPut hown hp⟩
 have:=h.put (p:=σ.pos+wd) h5 hcs rfl ho hout hap hok hown (by simpa using hp)
 simpa using this
end Go.Proofs.YtldiemjlpnachaaGreatDoor
namespace Go.Proofs.YtldiemjlpnachaaGreatDoor
open Go.RowKit
def canB(its:List It):Bool:=match its.getLast? with
 |none=>false
 |some i=>(i.1 !=1)&&(i.1 !=2)
theorem canB_nil:canB []=false:=rfl
theorem canB_snoc(is:List It)(i:It):canB (is++ [i])=((i.1 !=1)&&(i.1 !=2)):=by simp[canB]
theorem list_snoc{α:Type}(l:List α):l= []\/∃is i,l=is++ [i]:=by
 rcases List.eq_nil_or_concat l with h|⟨is,i,h⟩
 ·exact .inl h
 ·exact .inr ⟨is,i,by simpa using h⟩
theorem Live.last{w:World}{base:Nat}{H:Fins}{v:Value}{is:List It}{i:It}(h:Live w base H v (is++ [i])):
  ∃g cap css c,v= .slice (some ⟨g,0,none⟩) (is.length+1) cap/\AllOk H css is/\(∃d,ItemOk H d c i)/\w.ownsRow base 119 13 (.slice (some ⟨g,0,none⟩) (is.length+1) cap) (is.length+1) (css.flatten++c)/\
   ∀j u,c[j]?=some u->w.cell? ⟨g,is.length*13+j,none⟩=some u:=by
 obtain⟨cs,hall,hown⟩:=h
 obtain⟨css,c,rfl,h1,h2⟩:=hall.unsnoc
 obtain⟨g,cap,rfl,_,_⟩:=hown.form (by simp)
 simp only[List.length_append,List.length_singleton,List.flatten_append,List.flatten_cons,List.flatten_nil,List.append_nil]at hown
 refine⟨g,cap,css,c,by simp,h1,h2,hown,fun j u hu=>?_⟩
 refine owns_cell hown _ u ?_
 rw[List.getElem?_append_right (by rw[h1.flat];omega),h1.flat,show is.length*13+j-is.length*13=j by omega]
 exact hu
theorem canRepeat_any{w:World}{base R:Nat}{s:ByteArray}{H:Fins}{σ:St}(h:Rd w base R s H σ)(hn:σ.inner.items.length<=1000):
  Calls Tryz.prog 42 #[.pointer (some ⟨R,0,none⟩)] w fun e w'=>e= .returned (.bool (canB σ.inner.items))/\w'=w:=by
 obtain⟨vi,vo,rs,h4,_,hlive,_,_,_⟩:=h.rows
 rcases list_snoc σ.inner.items with he|⟨is,i,he⟩
 ·rw[he]at hlive ⊢
  obtain⟨ao,cp,rfl⟩:=hlive.shape
  rw[canB_nil]
  clear h hlive
  go_enter Tryz.func42,Tryz.ntmps42
  go_wp2
  go_ret
  exact⟨rfl,rfl⟩
 ·rw[he]at hlive hn ⊢
  obtain⟨g,cap,css,c,rfl,_,⟨d,hok⟩,_,hcell⟩:=hlive.last
  obtain⟨hk,hk0,hk1⟩:=hok.kind
  have h0:w.cell? ⟨g,is.length*13,none⟩=some (.int .i64 i.1):=hcell 0 _ hk
  rw[canB_snoc]
  simp only[List.length_append,List.length_singleton]at hn
  obtain⟨kd,sz,trr⟩:=i
  simp only at*
  generalize is.length=m at*
  have hm0:(0:Int)<=(m:Int):=by omega
  have hne:((m:Int)+1==0)=false:=by simp;omega
  clear h hlive hcell hok hk he
  go_enter Tryz.func42,Tryz.ntmps42
  go_wp2
  ·go_ret
   have hk1':kd=1:=by assumption
   exact⟨ret_bool (by rw[hk1'];rfl),rfl⟩
  ·go_ret
   exact⟨rfl,rfl⟩
theorem endsRow_any{w:World}{base R:Nat}{s:ByteArray}{H:Fins}{σ:St}(h:Rd w base R s H σ)(hs:s.size<=60)(i:Int)(q:Nat)(hiq:i=q)(hq:q<=1000):
  Calls Tryz.prog 41 #[.pointer (some ⟨R,0,none⟩),.int .i64 i] w fun e w'=>e= .returned (.bool (decide (s.size<=q)||sw s.data.toList q [92,41]))/\w'=w:=by
 have c0:=h.c0
 subst hiq
 clear h
 by_cases hlt:q<s.size
 ·cases hsw:sw s.data.toList q [92,41]
  all_goals
   have Hv:Hid (decide (s.size<=q)=false):=hd (by simp;omega)
   go_enter Tryz.func41,Tryz.ntmps41
   go_wp2_with (go_at_call 64;refine(hasAt_at s _ _ q [92,41] _ rfl rfl (by omega) (by decide) (by decide) (by omega)).mono ?_;rintro e w' ⟨rfl,rfl⟩)
   go_ret
   rw[Hv.out]
   exact⟨rfl,rfl⟩
 ·have Hv:Hid (decide (s.size<=q)=true):=hd (by simp;omega)
  go_enter Tryz.func41,Tryz.ntmps41
  go_wp2
  go_ret
  rw[Hv.out]
  exact⟨rfl,rfl⟩
end Go.Proofs.YtldiemjlpnachaaGreatDoor
namespace Go.Proofs.YtldiemjlpnachaaGreatDoor
open Go.RowKit
theorem repeat_walk(R g m cap:Nat)(least most:Int)(w:World)(k a0 a1 a2 a3 a4 a5 a6 a7 num ls ms:Int)(ra:Option Addr)(rn rc:Nat)
  (r4:w.cell? ⟨R,4,none⟩=some (.slice (some ⟨g,0,none⟩) (m+1) cap))(hm:m<=1000)(hg:g<w.heap.size)
  (h0:w.cell? ⟨g,m*13,none⟩=some (.int .i64 k))(h1:w.cell? ⟨g,m*13+1,none⟩=some (.int .u32 a0))(h2:w.cell? ⟨g,m*13+2,none⟩=some (.int .u32 a1))(h3:w.cell? ⟨g,m*13+3,none⟩=some (.int .u32 a2))(h4:w.cell? ⟨g,m*13+4,none⟩=some (.int .u32 a3))(h5:w.cell? ⟨g,m*13+5,none⟩=some (.int .u32 a4))(h6:w.cell? ⟨g,m*13+6,none⟩=some (.int .u32 a5))(h7:w.cell? ⟨g,m*13+7,none⟩=some (.int .u32 a6))(h8:w.cell? ⟨g,m*13+8,none⟩=some (.int .u32 a7))(h9:w.cell? ⟨g,m*13+9,none⟩=some (.int .i64 num))(h10:w.cell? ⟨g,m*13+10,none⟩=some (.int .i64 ls))(h11:w.cell? ⟨g,m*13+11,none⟩=some (.int .i64 ms))(h12:w.cell? ⟨g,m*13+12,none⟩=some (.slice ra rn rc))
  (q0:w.frozen? ⟨g,m*13,none⟩=false)(q1:w.frozen? ⟨g,m*13+1,none⟩=false)(q2:w.frozen? ⟨g,m*13+2,none⟩=false)(q3:w.frozen? ⟨g,m*13+3,none⟩=false)(q4:w.frozen? ⟨g,m*13+4,none⟩=false)(q5:w.frozen? ⟨g,m*13+5,none⟩=false)(q6:w.frozen? ⟨g,m*13+6,none⟩=false)(q7:w.frozen? ⟨g,m*13+7,none⟩=false)(q8:w.frozen? ⟨g,m*13+8,none⟩=false)(q9:w.frozen? ⟨g,m*13+9,none⟩=false)(q10:w.frozen? ⟨g,m*13+10,none⟩=false)(q11:w.frozen? ⟨g,m*13+11,none⟩=false)(q12:w.frozen? ⟨g,m*13+12,none⟩=false):
  Calls Tryz.prog 43 #[.pointer (some ⟨R,0,none⟩),.int .i64 least,.int .i64 most] w fun e w'=>e= .returned (.tuple #[])/\
   w'=(w.setCells g (m*13) [Value.int .i64 5,.int .u32 0,.int .u32 0,.int .u32 0,.int .u32 0,.int .u32 0,.int .u32 0,.int .u32 0,.int .u32 0,.int .i64 0,.int .i64 least,.int .i64 most,.slice (some ⟨w.heap.size,0,none⟩) 1 1]).alloc (.cells #[Value.int .i64 k,.int .u32 a0,.int .u32 a1,.int .u32 a2,.int .u32 a3,.int .u32 a4,.int .u32 a5,.int .u32 a6,.int .u32 a7,.int .i64 num,.int .i64 ls,.int .i64 ms,.slice ra rn rc] 119):=by
 have hm0:(0:Int)<=(m:Int):=by omega
 have hne:((m:Int)+1==0)=false:=by simp;omega
 have hRl:=World.block_lt_of_cell? w _ r4
 go_enter Tryz.func43,Tryz.ntmps43
 go_wp2
 go_end0
 rw[chain13]
 exact⟨rfl,rfl⟩
theorem repSz_bd(least most x:Int)(hl:0<=least/\least<=20)(hm: -1<=most/\most<=20)(hx:0<=x):0<=repSz least most x/\repSz least most x<=202:=by
 have hc:=cop_bd least most hl hm
 have hp:0<=cop least most*x:=Int.mul_nonneg (by omega) hx
 unfold repSz
 split<;>omega
def finAdd(H:Fins)(b:Nat)(arr:Array Value):Fins:=fun k=>if k=b then some arr else H k
theorem finAdd_le{H:Fins}{b:Nat}{arr:Array Value}(hb:H b=none):∀g a,H g=some a->finAdd H b arr g=some a:=by
 intro g a hg
 unfold finAdd
 rw[if_neg (by rintro rfl;rw[hb]at hg;cases hg)]
 exact hg
theorem Fin.none{w:World}{H:Fins}(h:Fin w H){b:Nat}(hb:w.heap.size<=b):H b=none:=by
 cases hg:H b with
 |none=>rfl
 |some arr=>have:=h.lt hg;omega
theorem Rd.rep{w:World}{base R g cap:Nat}{s:ByteArray}{H:Fins}{σ:St}{is:List It}{it:It}{vo:Value}{rs:List Value}{css:List (List Value)}{c:List Value}{d:Nat}(least most:Int)
  (h:Rd w base R s H σ)(h4:w.cell? ⟨R,4,none⟩=some (.slice (some ⟨g,0,none⟩) (is.length+1) cap))(h5:w.cell? ⟨R,5,none⟩=some vo)(hcs:AllOk H css is)(hok:ItemOk H d c it)(hown:w.ownsRow base 119 13 (.slice (some ⟨g,0,none⟩) (is.length+1) cap) (is.length+1) (css.flatten++c))
  (ho:w.ownsRow base 80 3 vo σ.outer.length (outCells σ.outer rs))(hout:OutOk w base H rs σ.outer)(hap:Apart H (.slice (some ⟨g,0,none⟩) (is.length+1) cap::vo::rs))
  (hl:0<=least/\least<=20)(hm: -1<=most/\most<=20)(hlm:most= -1\/least<=most):
  Rd ((w.setCells g (is.length*13) [Value.int .i64 5,.int .u32 0,.int .u32 0,.int .u32 0,.int .u32 0,.int .u32 0,.int .u32 0,.int .u32 0,.int .u32 0,.int .i64 0,.int .i64 least,.int .i64 most,.slice (some ⟨w.heap.size,0,none⟩) 1 1]).alloc (.cells c.toArray 119)) base R s (finAdd H w.heap.size c.toArray) {σ with inner:= {σ.inner with items:=is++ [itRep least most it]}}/\
   Below R w ((w.setCells g (is.length*13) [Value.int .i64 5,.int .u32 0,.int .u32 0,.int .u32 0,.int .u32 0,.int .u32 0,.int .u32 0,.int .u32 0,.int .u32 0,.int .i64 0,.int .i64 least,.int .i64 most,.slice (some ⟨w.heap.size,0,none⟩) 1 1]).alloc (.cells c.toArray 119)):=by
 have hR:=h.hR
 have hb:=h.hb
 obtain⟨hgb,hgl⟩:=hown.lt g rfl
 have hgR:g≠R:=by omega
 generalize hnew: [Value.int .i64 5,.int .u32 0,.int .u32 0,.int .u32 0,.int .u32 0,.int .u32 0,.int .u32 0,.int .u32 0,.int .u32 0,.int .i64 0,.int .i64 least,.int .i64 most,.slice (some ⟨w.heap.size,0,none⟩) 1 1]=new
 have hnl:new.length=13:=by rw[<-hnew];rfl
 have hch:Ch w (w.setCells g (is.length*13) new) R (some g) []:=Ch.sets g hgR (.inl rfl) new _ _ (Ch.refl _ _ _ _)
 have hsz:(w.setCells g (is.length*13) new).heap.size=w.heap.size:=setCells_size _ _ _ _
 have hch2:Ch w ((w.setCells g (is.length*13) new).alloc (.cells c.toArray 119)) R (some g) []:=hch.alloc (by omega) _
 have hfn:=h.fin.none (Nat.le_refl _)
 have hle:=finAdd_le (arr:=c.toArray) hfn
 have others:∀v∈vo::rs,∀k,v.ownBlock=some k->base<=k/\k<w.heap.size:=by
  intro v hv k hk
  rcases List.mem_cons.1 hv with rfl|hv
  ·exact ho.lt k hk
  ·exact hout.lt v hv k hk
 have apart:∀v∈vo::rs,∀k,v.ownBlock=some k->k≠g:=by
  intro v hv k hk e
  have hn:=hap.1
  rw[List.filterMap_cons]at hn
  exact(List.nodup_cons.1 hn).1 (by rw[<-e];exact mem_blocks hv hk)
 have blk:∀v∈vo::rs,∀k,v.ownBlock=some k->((w.setCells g (is.length*13) new).alloc (.cells c.toArray 119)).heap[k]?=w.heap[k]?:=by
  intro v hv k hk
  have:=others v hv k hk
  exact hch2.block k this.2 (by omega) (by simpa using apart v hv k hk)
 have cl:∀i,((w.setCells g (is.length*13) new).alloc (.cells c.toArray 119)).cell? ⟨R,i,none⟩=w.cell? ⟨R,i,none⟩:=fun i=>hch2.cell i (by simp)
 refine⟨⟨hR,Nat.le_trans hb hch2.size,(cl 0).trans h.c0,(cl 1).trans h.c1,(cl 2).trans h.c2,(cl 3).trans h.c3,(cl 6).trans h.c6,fun i hi=>(cl _).trans (h.c7 i hi),h.rf.ch hch2 (by simp) hR (fun k hk=>by obtain⟨cur,hc⟩:=owns_typ hown (show _=some k from hk);exact⟨cur,_,hc,by decide⟩),fun i hi=>(hch2.frozen i).trans (h.fz i hi),?_,?_,?_⟩,hch2.below (by omega) (fun k hk=>by cases hk;omega)⟩
 ·intro b arr hb'
  unfold finAdd at hb'
  split at hb'
  ·rename_i e
   cases hb'
   rw[e,<-hsz]
   exact heap_alloc_new _ _
  ·rw[hch2.block b (h.fin.lt hb') (by have:=h.finb b arr hb';omega) (by
    intro e
    have:=hap.2 b (mem_blocks (v:= .slice (some ⟨g,0,none⟩) (is.length+1) cap) (by simp) (by simp[Value.ownBlock];cases e;rfl))
    rw[this]at hb';cases hb')]
   exact h.fin b arr hb'
 ·intro b arr hb'
  unfold finAdd at hb'
  split at hb'
  ·rename_i e;omega
  ·exact h.finb b arr hb'
 ·refine⟨_,vo,rs,(cl 4).trans h4,(cl 5).trans h5,⟨css++ [new],?_,?_⟩,owns_same ho (blk vo (by simp)),(hout.mono hle).same (fun v hv=>blk v (by simp[hv])),hap.1,?_⟩
  ·refine(hcs.mono hle).snoc ⟨d+1,?_⟩
   have hbd:=hok.bd
   have hr:=repSz_bd least most it.2 hl hm hbd.1
   refine⟨fun _=>0,0,least,most,some ⟨w.heap.size,0,none⟩,1,1,hnew.symm,by show(0:Int)<=5;omega,by show(5:Int)<=5;omega,hr.1,hr.2,.inr (.inl ⟨rfl,hl.1,hl.2,hm.1,hm.2,it,?_,rfl,rfl,hlm⟩)⟩
   refine⟨rfl,by omega,.inr ⟨w.heap.size,c.toArray,rfl,by simp[finAdd],fun i hi=>?_⟩⟩
   have hi0:i=0:=by simpa using hi
   subst hi0
   have:itemAt c.toArray 0=c:=by unfold itemAt;simp[List.take_of_length_le (Nat.le_of_eq hok.len)]
   rw[this]
   exact hok.mono hle
  ·simp only[List.length_append,List.length_singleton,List.flatten_append,List.flatten_cons,List.flatten_nil,List.append_nil]
   have:=owns_store (ps:=css.flatten) (zs:=c) (bs:= []) (cs:=new) (k:=is.length*13) (by simpa using hown) hcs.flat (by rw[hok.len,hnl])
   simp only[List.append_nil]at this
   exact this.alloc _
  ·intro b hb'
   unfold finAdd
   obtain⟨v,hv,hk⟩:=List.mem_filterMap.1 hb'
   have hlt:b<w.heap.size:=by
    rcases List.mem_cons.1 hv with rfl|hv
    ·simp[Value.ownBlock]at hk;omega
    ·exact(others v hv b hk).2
   rw[if_neg (by omega)]
   exact hap.2 b hb'
theorem repeat_rd{w:World}{base R:Nat}{s:ByteArray}{H:Fins}{σ:St}(h:Rd w base R s H σ)(is:List It)(it:It)(hi:σ.inner.items=is++ [it])(least most:Int)(hl:0<=least/\least<=20)(hm: -1<=most/\most<=20)(hlm:most= -1\/least<=most)(hn:is.length<=1000):
  Calls Tryz.prog 43 #[.pointer (some ⟨R,0,none⟩),.int .i64 least,.int .i64 most] w fun e w'=>e= .returned (.tuple #[])/\
   ∃H',Rd w' base R s H' {σ with inner:= {σ.inner with items:=is++ [itRep least most it]}}/\Below R w w':=by
 obtain⟨vi,vo,rs,h4,h5,hlive,ho,hout,hap⟩:=h.rows
 rw[hi]at hlive
 obtain⟨g,cap,css,c,rfl,hcs,⟨d,hok⟩,hown,hcell⟩:=hlive.last
 obtain⟨a,num,ls,ms,ra,rn,rc,hc⟩:=hok.oneCell
 have hfr:∀j,w.frozen? ⟨g,j,none⟩=false:=by
  obtain⟨cur,_,hg,_⟩:=owns_cells hown
  intro j
  simp[World.frozen?,hg]
 have hc':=hc
 rw[hc]at hcell
 refine(repeat_walk R g is.length cap least most w it.1 (a 0) (a 1) (a 2) (a 3) (a 4) (a 5) (a 6) (a 7) num ls ms ra rn rc h4 hn (hown.lt g rfl).2
  (hcell 0 _ rfl) (hcell 1 _ rfl) (hcell 2 _ rfl) (hcell 3 _ rfl) (hcell 4 _ rfl) (hcell 5 _ rfl) (hcell 6 _ rfl) (hcell 7 _ rfl) (hcell 8 _ rfl) (hcell 9 _ rfl) (hcell 10 _ rfl) (hcell 11 _ rfl) (hcell 12 _ rfl)
  (hfr _) (hfr _) (hfr _) (hfr _) (hfr _) (hfr _) (hfr _) (hfr _) (hfr _) (hfr _) (hfr _) (hfr _) (hfr _)).mono ?_
 rintro e w' ⟨rfl,rfl⟩
 have hrep:=h.rep (is:=is) (it:=it) least most h4 h5 hcs hok hown ho hout hap hl hm hlm
 rw[hc']at hrep
 exact⟨rfl,_,hrep.1,hrep.2⟩
end Go.Proofs.YtldiemjlpnachaaGreatDoor

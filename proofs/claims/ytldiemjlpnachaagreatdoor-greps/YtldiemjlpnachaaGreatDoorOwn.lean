import Derived.Test.YtldiemjlpnachaaGreatDoorFr
import Derived.Test.YtldiemjlpnachaaGreatDoorSize
import Derived.OwnWalk
import Derived.OneCell
import Derived.Deep.MidRow
import Derived.Test.YtldiemjlpnachaaGreatDoorRows
import Derived.WalkKit
import Derived.WalkSpells
import Derived.WalkLawsBesides
import Derived.Laws.Pointers
import Derived.Deep.RegionHeld3
import Derived.Deep.RegionLaw
import Derived.Deep.AppendLies
import Derived.Deep.DrawnRows
import Derived.KernelRfl
set_option maxHeartbeats 6400000
set_option maxRecDepth 100000
namespace Go.Proofs.YtldiemjlpnachaaGreatDoor
open Go.RowKit
theorem setCell_shape{w:World}{g:Nat}{cur:Array Value}{e:TypeId}{fr:Nat×Nat}(h:w.heap[g]?=some (.cells cur e fr))(b o:Nat)(v:Value):
  ∃cur',(w.setCell ⟨b,o,none⟩ v).heap[g]?=some (.cells cur' e fr)/\cur'.size=cur.size:=by
 by_cases hb:b=g
 ·subst hb
  refine⟨cur.setIfInBounds o v,?_,by simp⟩
  simp[World.setCell,Array.getElem?_modify,h]
 ·exact⟨cur,by rw[Below.heap_setCell _ _ _ _ (fun e=>hb e.symm)];exact h,rfl⟩
theorem setCells_shape(b:Nat):∀(vs:List Value) (o:Nat) (w:World) (g:Nat) (cur:Array Value) (e:TypeId) (fr:Nat×Nat),w.heap[g]?=some (.cells cur e fr)->∃cur',(w.setCells b o vs).heap[g]?=some (.cells cur' e fr)/\cur'.size=cur.size
 | [],_,w,g,cur,e,fr,h=>⟨cur,h,rfl⟩
 |v::r,o,w,g,cur,e,fr,h=>by
  obtain⟨c1,h1,s1⟩:=setCell_shape h b o v
  obtain⟨c2,h2,s2⟩:=setCells_shape b r (o+1) _ g c1 e fr h1
  exact⟨c2,h2,s2.trans s1⟩
theorem owns_cells{w:World}{base e size g n cap:Nat}{xs:List Value}(h:w.ownsRow base e size (.slice (some ⟨g,0,none⟩) n cap) n xs):
  ∃cur,base<=g/\w.heap[g]?=some (.cells cur e (0,0))/\n<=cap/\cap<=maxLen/\cur.size=cap*size/\xs.length=n*size/\cur.toList.take (n*size)=xs:=by
 rcases h.2 with⟨h0,_⟩|⟨g',cap',cur,hv,hb,hg,h1,h2,h3,h4⟩
 ·simp at h0
 ·simp at hv
  obtain⟨rfl,rfl⟩:=hv
  exact⟨cur,hb,hg,h1,h2,h3,h.1,h4⟩
theorem owns_of_cells{w:World}{base e size g n cap:Nat}{xs:List Value}{cur:Array Value}(hb:base<=g)(hg:w.heap[g]?=some (.cells cur e (0,0)))(h1:n<=cap)(h2:cap<=maxLen)(h3:cur.size=cap*size)(hx:xs.length=n*size)
  (hc:∀j v,xs[j]?=some v->w.cell? ⟨g,j,none⟩=some v):w.ownsRow base e size (.slice (some ⟨g,0,none⟩) n cap) n xs:=by
 refine⟨hx,.inr ⟨g,cap,cur,rfl,hb,hg,h1,h2,h3,?_⟩⟩
 have hle:n*size<=cap*size:=Nat.mul_le_mul_right _ h1
 apply List.ext_getElem?
 intro j
 rcases Nat.lt_or_ge j (n*size)with hj|hj
 ·obtain⟨v,hv⟩:∃v,xs[j]?=some v:=⟨xs[j],List.getElem?_eq_getElem (by omega)⟩
  have:=hc j v hv
  rw[cell_of_row w g j cur e (0,0) hg]at this
  rw[hv,List.getElem?_take_of_lt hj]
  simpa using this
 ·rw[List.getElem?_eq_none (l:=xs) (by omega),List.getElem?_eq_none (by rw[List.length_take];omega)]
theorem owns_cell{w:World}{base e size g n cap:Nat}{xs:List Value}(h:w.ownsRow base e size (.slice (some ⟨g,0,none⟩) n cap) n xs)(j:Nat)(v:Value)(hv:xs[j]?=some v):w.cell? ⟨g,j,none⟩=some v:=by
 obtain⟨cur,_,hg,_,_,_,hl,ht⟩:=owns_cells h
 have hj:j<n*size:=by have:=(List.getElem?_eq_some_iff.1 hv).1;omega
 rw[cell_of_row w g j cur e (0,0) hg]
 rw[<-ht,List.getElem?_take_of_lt hj]at hv
 simpa using hv
theorem owns_store{w:World}{base e size g n cap k:Nat}{ps bs zs cs:List Value}(h:w.ownsRow base e size (.slice (some ⟨g,0,none⟩) n cap) n (ps++zs++bs))(ha:ps.length=k)(hz:zs.length=cs.length):
  (w.setCells g k cs).ownsRow base e size (.slice (some ⟨g,0,none⟩) n cap) n (ps++cs++bs):=by
 obtain⟨cur,hb,hg,h1,h2,h3,hl,_⟩:=owns_cells h
 obtain⟨cur',hg',hs'⟩:=setCells_shape g cs k w g cur e (0,0) hg
 have hle:n*size<=cap*size:=Nat.mul_le_mul_right _ h1
 refine owns_of_cells hb hg' h1 h2 (hs'.trans h3) (by simp at hl ⊢;omega) ?_
 intro j v hv
 by_cases hin:k<=j/\j<k+cs.length
 ·have hsome:∀i,i<cs.length->(w.cell? ⟨g,k+i,none⟩).isSome=true:=by
   intro i hi
   rw[cell_of_row w g (k+i) cur e (0,0) hg]
   simp at hl ⊢
   omega
  have:=World.cell?_setCells_in g cs k w hsome (j-k) (by omega)
  rw[show k+(j-k)=j by omega]at this
  rw[this]
  rw[List.append_assoc,List.getElem?_append_right (by omega),List.getElem?_append_left (by omega),ha,List.getElem?_eq_getElem (by omega)]at hv
  exact hv
 ·rw[World.cell?_setCells_out g cs k w ⟨g,j,none⟩ (fun _ _=>by show j<k\/k+cs.length<=j;omega)]
  refine owns_cell h j v ?_
  rcases Nat.lt_or_ge j k with hj|hj
  ·rw[List.append_assoc,List.getElem?_append_left (by omega)]at hv ⊢
   exact hv
  ·rw[List.getElem?_append_right (by simp;omega)]at hv ⊢
   simp at hv ⊢
   rw[ha,hz]at*
   exact hv
structure Ch(w w':World)(R:Nat)(row:Option Nat)(pl:List Nat):Prop where
 os:w'.os=w.os
 tape:w'.tape=w.tape
 output:w'.output=w.output
 size:w.heap.size<=w'.heap.size
 block:∀k,k<w.heap.size->k≠R->some k≠row->w'.heap[k]?=w.heap[k]?
 cell:∀i,i ∉ pl->w'.cell? ⟨R,i,none⟩=w.cell? ⟨R,i,none⟩
 frozen:∀i,w'.frozen? ⟨R,i,none⟩=w.frozen? ⟨R,i,none⟩
theorem Ch.refl(w:World)(R:Nat)(row:Option Nat)(pl:List Nat):Ch w w R row pl:=⟨rfl,rfl,rfl,Nat.le_refl _,fun _ _ _ _=>rfl,fun _ _=>rfl,fun _=>rfl⟩
theorem Ch.alloc{a w:World}{R:Nat}{row:Option Nat}{pl:List Nat}(h:Ch a w R row pl)(hR:R<a.heap.size)(o:Obj):Ch a (w.alloc o) R row pl:=
 ⟨h.os,h.tape,h.output,by simp;have:=h.size;omega,fun k hk h1 h2=>by rw[Below.heap_alloc _ _ _ (by have:=h.size;omega)];exact h.block k hk h1 h2,
  fun i hi=>by rw[World.cell?_alloc_lt _ _ _ (by have:=h.size;show R<_;omega)];exact h.cell i hi,
  fun i=>by rw[World.frozen?_alloc_old _ _ _ (by have:=h.size;show R≠_;omega)];exact h.frozen i⟩
theorem Ch.drew{a w:World}{R:Nat}{row:Option Nat}{pl:List Nat}(h:Ch a w R row pl):Ch a w.drew R row pl:=⟨h.os,h.tape,h.output,h.size,h.block,h.cell,h.frozen⟩
theorem Ch.drewN{a w:World}{R n:Nat}{row:Option Nat}{pl:List Nat}(h:Ch a w R row pl):Ch a (w.drewN n) R row pl:=⟨h.os,h.tape,h.output,h.size,h.block,h.cell,h.frozen⟩
theorem Ch.put{a w:World}{R:Nat}{row:Option Nat}{pl:List Nat}(h:Ch a w R row pl)(i:Nat)(hi:i∈pl)(v:Value):Ch a (w.setCell ⟨R,i,none⟩ v) R row pl:=
 ⟨h.os,h.tape,h.output,by simp[World.setCell];exact h.size,fun k hk h1 h2=>by rw[Below.heap_setCell _ _ _ _ h1];exact h.block k hk h1 h2,
  fun j hj=>by rw[World.cell?_setCell_other _ _ _ _ (by rintro e;cases e;exact hj hi)];exact h.cell j hj,fun j=>by rw[World.frozen?_setCell];exact h.frozen j⟩
theorem Ch.set{a w:World}{R:Nat}{row:Option Nat}{pl:List Nat}(h:Ch a w R row pl)(b i:Nat)(hb:b≠R)(hr:row=some b\/a.heap.size<=b)(v:Value):Ch a (w.setCell ⟨b,i,none⟩ v) R row pl:=
 ⟨h.os,h.tape,h.output,by simp[World.setCell];exact h.size,fun k hk h1 h2=>by
   rw[Below.heap_setCell _ _ _ _ (by intro e;have e':k=b:=e;rcases hr with hr|hr;exact h2 (by rw[e',hr]);omega)];exact h.block k hk h1 h2,
  fun j hj=>by rw[World.cell?_setCell_other _ _ _ _ (by rintro e;cases e;exact hb rfl)];exact h.cell j hj,fun j=>by rw[World.frozen?_setCell];exact h.frozen j⟩
theorem Ch.sets{a:World}{R:Nat}{row:Option Nat}{pl:List Nat}(b:Nat)(hb:b≠R)(hr:row=some b\/a.heap.size<=b):∀(vs:List Value) (o:Nat) (w:World),Ch a w R row pl->Ch a (w.setCells b o vs) R row pl
 | [],_,_,h=>h
 |u::r,o,_,h=>Ch.sets b hb hr r (o+1) _ (h.set b o hb hr u)
theorem Ch.grown{a w w':World}{R:Nat}{row:Option Nat}{pl:List Nat}(h:Ch a w R row pl)(hg:w.grownBy w' row)(hR:R<a.heap.size)(hrow:row≠some R):Ch a w' R row pl:=
 ⟨hg.os.trans h.os,hg.tape.trans h.tape,hg.output.trans h.output,Nat.le_trans h.size hg.size,fun k hk h1 h2=>(hg.block k (by have:=h.size;omega) h2).trans (h.block k hk h1 h2),
  fun i hi=>(hg.cell_far ⟨R,i,none⟩ (by have:=h.size;show R<_;omega) (fun e=>hrow e.symm)).trans (h.cell i hi),
  fun i=>(hg.frozen_far ⟨R,i,none⟩ (by have:=h.size;show R<_;omega) (fun e=>hrow e.symm)).trans (h.frozen i)⟩
theorem Ch.below{a w:World}{R:Nat}{row:Option Nat}{pl:List Nat}(h:Ch a w R row pl)(hR:R<a.heap.size)(hrow:∀k,row=some k->R<=k):Below R a w:=
 ⟨h.os,h.tape,h.output,h.size,fun k hk=>h.block k (by omega) (by omega) (fun e=>by have:=hrow k e.symm;omega)⟩
end Go.Proofs.YtldiemjlpnachaaGreatDoor
namespace Go.Proofs.YtldiemjlpnachaaGreatDoor
open Go.RowKit
attribute [local go_sem ↓] Go.wp_at_zero Go.wp_at_succ
theorem info_item:(Tryz.prog.info? 119).map (fun i=>(i.zero,i.size,i.bytes))=some (some (.agg #[.int .i64 0,.int .u32 0,.int .u32 0,.int .u32 0,.int .u32 0,.int .u32 0,.int .u32 0,.int .u32 0,.int .u32 0,.int .i64 0,.int .i64 0,.int .i64 0,.slice none 0 0]),13,88):=by kernel_rfl
theorem there_of_owns{w:World}{base e size g n cap:Nat}{xs:List Value}(h:w.ownsRow base e size (.slice (some ⟨g,0,none⟩) (n+1) cap) (n+1) xs):w.there g (n*size) size:=by
 rcases h.2 with⟨h0,_⟩|⟨g',cap',cur,hv,_,hb,hc1,_,hsz,_⟩
 ·simp at h0
 ·simp at hv
  obtain⟨rfl,rfl⟩:=hv
  have hle:(n+1)*size<=cap*size:=Nat.mul_le_mul_right _ hc1
  rw[Nat.add_mul,Nat.one_mul]at hle
  intro j hj
  constructor
  ·rw[cell_of_row w g (n*size+j) cur e (0,0) hb]
   simp
   omega
  ·simp[World.frozen?,hb]
theorem heap_two(w:World)(o1 o2:Obj):((w.alloc o1).alloc o2).drew.heap[w.heap.size+1]?=some o2:=by
 have h:=heap_alloc_new (w.alloc o1) o2
 rw[show(w.alloc o1).heap.size=w.heap.size+1 by simp]at h
 exact h
theorem frozen_two(w:World)(o1 o2:Obj)(b i:Nat)(hb:b<w.heap.size)(hf:w.frozen? ⟨b,i,none⟩=false):((w.alloc o1).alloc o2).drew.frozen? ⟨b,i,none⟩=false:=by
 have h1:(w.alloc o1).frozen? ⟨b,i,none⟩=w.frozen? ⟨b,i,none⟩:=World.frozen?_alloc_old _ _ _ (by simp;omega)
 have h2:((w.alloc o1).alloc o2).frozen? ⟨b,i,none⟩=(w.alloc o1).frozen? ⟨b,i,none⟩:=World.frozen?_alloc_old _ _ _ (by simp;omega)
 exact h2.trans (h1.trans hf)
theorem there_cells{w:World}{g o:Nat}(h:w.there g o 13):∃z0 z1 z2 z3 z4 z5 z6 z7 z8 z9 z10 z11 z12:Value,w.cell? ⟨g,o,none⟩=some z0/\w.cell? ⟨g,o+1,none⟩=some z1/\w.cell? ⟨g,o+2,none⟩=some z2/\w.cell? ⟨g,o+3,none⟩=some z3/\w.cell? ⟨g,o+4,none⟩=some z4/\w.cell? ⟨g,o+5,none⟩=some z5/\w.cell? ⟨g,o+6,none⟩=some z6/\w.cell? ⟨g,o+7,none⟩=some z7/\w.cell? ⟨g,o+8,none⟩=some z8/\w.cell? ⟨g,o+9,none⟩=some z9/\w.cell? ⟨g,o+10,none⟩=some z10/\w.cell? ⟨g,o+11,none⟩=some z11/\w.cell? ⟨g,o+12,none⟩=some z12:=by
 have H:∀j,j<13->∃z,w.cell? ⟨g,o+j,none⟩=some z:=fun j hj=>Option.isSome_iff_exists.1 (h j hj).1
 obtain⟨z0,e0⟩:=H 0 (by omega)
 obtain⟨z1,e1⟩:=H 1 (by omega)
 obtain⟨z2,e2⟩:=H 2 (by omega)
 obtain⟨z3,e3⟩:=H 3 (by omega)
 obtain⟨z4,e4⟩:=H 4 (by omega)
 obtain⟨z5,e5⟩:=H 5 (by omega)
 obtain⟨z6,e6⟩:=H 6 (by omega)
 obtain⟨z7,e7⟩:=H 7 (by omega)
 obtain⟨z8,e8⟩:=H 8 (by omega)
 obtain⟨z9,e9⟩:=H 9 (by omega)
 obtain⟨z10,e10⟩:=H 10 (by omega)
 obtain⟨z11,e11⟩:=H 11 (by omega)
 obtain⟨z12,e12⟩:=H 12 (by omega)
 exact⟨z0,z1,z2,z3,z4,z5,z6,z7,z8,z9,z10,z11,z12,e0,e1,e2,e3,e4,e5,e6,e7,e8,e9,e10,e11,e12⟩
theorem there_free{w:World}{g o:Nat}(h:w.there g o 13):w.frozen? ⟨g,o,none⟩=false/\w.frozen? ⟨g,o+1,none⟩=false/\w.frozen? ⟨g,o+2,none⟩=false/\w.frozen? ⟨g,o+3,none⟩=false/\w.frozen? ⟨g,o+4,none⟩=false/\w.frozen? ⟨g,o+5,none⟩=false/\w.frozen? ⟨g,o+6,none⟩=false/\w.frozen? ⟨g,o+7,none⟩=false/\w.frozen? ⟨g,o+8,none⟩=false/\w.frozen? ⟨g,o+9,none⟩=false/\w.frozen? ⟨g,o+10,none⟩=false/\w.frozen? ⟨g,o+11,none⟩=false/\w.frozen? ⟨g,o+12,none⟩=false:=
 ⟨(h 0 (by omega)).2,(h 1 (by omega)).2,(h 2 (by omega)).2,(h 3 (by omega)).2,(h 4 (by omega)).2,(h 5 (by omega)).2,(h 6 (by omega)).2,(h 7 (by omega)).2,(h 8 (by omega)).2,(h 9 (by omega)).2,(h 10 (by omega)).2,(h 11 (by omega)).2,(h 12 (by omega)).2⟩
theorem chain13(w:World)(g o:Nat)(u0 u1 u2 u3 u4 u5 u6 u7 u8 u9 u10 u11 u12:Value):(((((((((((((w.setCell ⟨g,o,none⟩ u0).setCell ⟨g,o+1,none⟩ u1).setCell ⟨g,o+2,none⟩ u2).setCell ⟨g,o+3,none⟩ u3).setCell ⟨g,o+4,none⟩ u4).setCell ⟨g,o+5,none⟩ u5).setCell ⟨g,o+6,none⟩ u6).setCell ⟨g,o+7,none⟩ u7).setCell ⟨g,o+8,none⟩ u8).setCell ⟨g,o+9,none⟩ u9).setCell ⟨g,o+10,none⟩ u10).setCell ⟨g,o+11,none⟩ u11).setCell ⟨g,o+12,none⟩ u12)=w.setCells g o [u0,u1,u2,u3,u4,u5,u6,u7,u8,u9,u10,u11,u12]:=rfl
def PutPost(w w':World)(R base:Nat)(v:Value)(n:Nat)(xs cs:List Value)(pos:Int):Prop:=
 ∃g cap,w'.cell? ⟨R,4,none⟩=some (.slice (some ⟨g,0,none⟩) (n+1) cap)/\w'.cell? ⟨R,1,none⟩=some (.int .i64 pos)/\w'.ownsRow base 119 13 (.slice (some ⟨g,0,none⟩) (n+1) cap) (n+1) (xs++cs)/\
  (v.ownBlock=some g\/w.heap.size<=g)/\g<w'.heap.size/\Ch w w' R v.ownBlock [1,4]
def PutMid(w w':World)(R base:Nat)(v:Value)(n:Nat)(xs cs:List Value)(pos:Int):Prop:=
 ∃g cap,w'.cell? ⟨R,4,none⟩=some (.slice (some ⟨g,0,none⟩) (n+1) cap)/\w'.cell? ⟨R,1,none⟩=some (.int .i64 pos)/\w'.ownsRow base 119 13 (.slice (some ⟨g,0,none⟩) (n+1) cap) (n+1) (xs++cs)/\
  (v.ownBlock=some g\/w.heap.size<=g)/\g<w'.heap.size/\g≠R/\Ch w w' R v.ownBlock [1,4]
theorem PutMid.fin{w w':World}{R base:Nat}{v:Value}{n:Nat}{xs cs:List Value}{pos:Int}(h:PutMid w w' R base v n xs cs pos)(pos':Int):PutPost w (w'.setCell ⟨R,1,none⟩ (.int .i64 pos')) R base v n xs cs pos':=by
 obtain⟨g,cap,h4,h1,ho,hat,hlt,hg,hch⟩:=h
 refine⟨g,cap,by rw[World.cell?_setCell_other _ _ _ _ (by simp)];exact h4,World.cell?_setCell_same _ _ _ h1,ownsRow_setCell_other ho (by simp[Value.ownBlock];exact hg) _,hat,by simp[World.setCell];exact hlt,hch.put 1 (by simp) _⟩
theorem setCells_size(b:Nat):∀(vs:List Value) (o:Nat) (w:World),(w.setCells b o vs).heap.size=w.heap.size
 | [],_,_=>rfl
 |u::r,o,w=>(setCells_size b r (o+1) _).trans (by simp[World.setCell])
theorem put_pre{w w1:World}{R base g n cap:Nat}{v:Value}{xs zs cs:List Value}{o1 o2:Obj}(hR:R<base)(hbase:base<=w.heap.size)(ag:v.ownBlock≠some R)(hxs:xs.length=n*13)(hzs:zs.length=13)(hcs:cs.length=13)
  (hown1:w1.ownsRow base 119 13 (.slice (some ⟨g,0,none⟩) (n+1) cap) (n+1) (xs++zs))(hgrow:((w.alloc o1).alloc o2).drew.grownBy w1 v.ownBlock)(hat:v.ownBlock=some g\/g=w.heap.size+1+1):
  g≠R/\(v.ownBlock=some g\/w.heap.size<=g)/\Ch w w1 R v.ownBlock [1,4]/\(w1.setCells g (n*13) cs).ownsRow base 119 13 (.slice (some ⟨g,0,none⟩) (n+1) cap) (n+1) (xs++cs):=by
 have hg:g≠R:=by
  have:=(owns_cells hown1).choose_spec.1
  omega
 have hat':v.ownBlock=some g\/w.heap.size<=g:=by
  rcases hat with h|h
  ·exact .inl h
  ·right;omega
 refine⟨hg,hat',?_,?_⟩
 ·exact((((Ch.refl w R v.ownBlock [1,4]).alloc (by omega) o1).alloc (by omega) o2).drew).grown hgrow (by omega) ag
 ·have:=owns_store (bs:= []) (k:=n*13) (zs:=zs) (cs:=cs) (by simpa using hown1) hxs (by omega)
  simpa using this
theorem put_midA{w w1:World}{R base g n cap:Nat}{v r4:Value}{xs zs cs:List Value}{o1 o2:Obj}(pos:Int)(hR:R<base)(hbase:base<=w.heap.size)(ag:v.ownBlock≠some R)(hxs:xs.length=n*13)(hzs:zs.length=13)(hcs:cs.length=13)
  (hown1:w1.ownsRow base 119 13 (.slice (some ⟨g,0,none⟩) (n+1) cap) (n+1) (xs++zs))(hgrow:((w.alloc o1).alloc o2).drew.grownBy w1 v.ownBlock)(hat:v.ownBlock=some g\/g=w.heap.size+1+1)(hlt:g<w1.heap.size)
  (h1:w1.cell? ⟨R,1,none⟩=some (.int .i64 pos))(h4:w1.cell? ⟨R,4,none⟩=some r4):
  PutMid w ((w1.setCells g (n*13) cs).setCell ⟨R,4,none⟩ (.slice (some ⟨g,0,none⟩) (n+1) cap)) R base v n xs cs pos:=by
 obtain⟨hg,hat',hch,ho⟩:=put_pre hR hbase ag hxs hzs hcs hown1 hgrow hat
 have e1:(w1.setCells g (n*13) cs).cell? ⟨R,1,none⟩=some (.int .i64 pos):=by rw[World.cell?_setCells_out g cs _ w1 ⟨R,1,none⟩ (fun e=>absurd e.symm hg)];exact h1
 have e4:(w1.setCells g (n*13) cs).cell? ⟨R,4,none⟩=some r4:=by rw[World.cell?_setCells_out g cs _ w1 ⟨R,4,none⟩ (fun e=>absurd e.symm hg)];exact h4
 have e14:((w1.setCells g (n*13) cs).setCell ⟨R,4,none⟩ (.slice (some ⟨g,0,none⟩) (n+1) cap)).cell? ⟨R,1,none⟩=some (.int .i64 pos):=by rw[World.cell?_setCell_other _ _ _ _ (by simp)];exact e1
 exact⟨g,cap,World.cell?_setCell_same _ _ _ e4,e14,ownsRow_setCell_other ho (by simp[Value.ownBlock];exact hg) _,hat',by simp[World.setCell,setCells_size];exact hlt,hg,(Ch.sets g hg hat' cs _ _ hch).put 4 (by simp) _⟩
theorem put_midB{w w1:World}{R base g n cap:Nat}{v r4:Value}{xs zs cs:List Value}{o1 o2:Obj}(pos:Int)(hR:R<base)(hbase:base<=w.heap.size)(ag:v.ownBlock≠some R)(hxs:xs.length=n*13)(hzs:zs.length=13)(hcs:cs.length=13)
  (hown1:w1.ownsRow base 119 13 (.slice (some ⟨g,0,none⟩) (n+1) cap) (n+1) (xs++zs))(hgrow:((w.alloc o1).alloc o2).drew.grownBy w1 v.ownBlock)(hat:v.ownBlock=some g\/g=w.heap.size+1+1)(hlt:g<w1.heap.size)
  (h1:w1.cell? ⟨R,1,none⟩=some (.int .i64 pos))(h4:w1.cell? ⟨R,4,none⟩=some r4):
  PutMid w ((w1.setCell ⟨R,4,none⟩ (.slice (some ⟨g,0,none⟩) (n+1) cap)).setCells g (n*13) cs) R base v n xs cs pos:=by
 obtain⟨hg,hat',hch,_⟩:=put_pre hR hbase ag hxs hzs hcs hown1 hgrow hat
 have hown2:=ownsRow_setCell_other hown1 (a:=⟨R,4,none⟩) (by simp[Value.ownBlock];exact hg) (.slice (some ⟨g,0,none⟩) (n+1) cap)
 have ho:((w1.setCell ⟨R,4,none⟩ (.slice (some ⟨g,0,none⟩) (n+1) cap)).setCells g (n*13) cs).ownsRow base 119 13 (.slice (some ⟨g,0,none⟩) (n+1) cap) (n+1) (xs++cs):=by
  have:=owns_store (bs:= []) (k:=n*13) (zs:=zs) (cs:=cs) (by simpa using hown2) hxs (by omega)
  simpa using this
 have e4:((w1.setCell ⟨R,4,none⟩ (.slice (some ⟨g,0,none⟩) (n+1) cap)).setCells g (n*13) cs).cell? ⟨R,4,none⟩=some (.slice (some ⟨g,0,none⟩) (n+1) cap):=by
  rw[World.cell?_setCells_out g cs _ _ ⟨R,4,none⟩ (fun e=>absurd e.symm hg)];exact World.cell?_setCell_same _ _ _ h4
 have e1:((w1.setCell ⟨R,4,none⟩ (.slice (some ⟨g,0,none⟩) (n+1) cap)).setCells g (n*13) cs).cell? ⟨R,1,none⟩=some (.int .i64 pos):=by
  rw[World.cell?_setCells_out g cs _ _ ⟨R,1,none⟩ (fun e=>absurd e.symm hg),World.cell?_setCell_other _ _ _ _ (by simp)];exact h1
 exact⟨g,cap,e4,e1,ho,hat',by simp[World.setCell,setCells_size];exact hlt,hg,Ch.sets g hg hat' cs _ _ (hch.put 4 (by simp) _)⟩
theorem put_any (R : Nat) (pos wd : Int) (ao : Option Addr) (n cp base : Nat) (xs : List Value) (w : World) (k a0 a1 a2 a3 a4 a5 a6 a7 num least most : Int) (ra : Option Addr) (rn rc : Nat)
    (h1 : w.cell? ⟨R, 1, none⟩ = some (.int .i64 pos)) (h4 : w.cell? ⟨R, 4, none⟩ = some (.slice ao n cp))
    (f1 : w.frozen? ⟨R, 1, none⟩ = false) (f4 : w.frozen? ⟨R, 4, none⟩ = false)
    (hp : 0 ≤ pos ∧ pos ≤ 1000) (hwd : 0 ≤ wd ∧ wd ≤ 2)
    (hown : w.ownsRow base 119 13 (.slice ao n cp) n xs) (hbase : base ≤ w.heap.size) (hn : n ≤ 1000) (hR : R < base) :
    Calls Tryz.prog 39 #[.pointer (some ⟨R, 0, none⟩), .agg #[.int .i64 k, .int .u32 a0, .int .u32 a1, .int .u32 a2, .int .u32 a3, .int .u32 a4, .int .u32 a5, .int .u32 a6, .int .u32 a7, .int .i64 num, .int .i64 least, .int .i64 most, .slice ra rn rc], .int .i64 wd] w fun e w' => e = .returned (.tuple #[]) ∧ PutPost w w' R base (.slice ao n cp) n xs [Value.int .i64 k, .int .u32 a0, .int .u32 a1, .int .u32 a2, .int .u32 a3, .int .u32 a4, .int .u32 a5, .int .u32 a6, .int .u32 a7, .int .i64 num, .int .i64 least, .int .i64 most, .slice ra rn rc] (pos + wd) := by
  obtain ⟨i0, hi0, hz0, hz1, hz2⟩ := info_parts info_item
  have lR := World.block_lt_of_cell? w _ h1
  have ag : (Value.slice ao n cp).ownBlock ≠ some R := by
    intro e
    have := (hown.lt R e).1
    omega
  go_enter Tryz.func39, Tryz.ntmps39
  go_wp2_with fail
  have nR1 := World.new_ne w ⟨R, 1, none⟩ h1
  have nR4 := World.new_ne w ⟨R, 4, none⟩ h4
  have agB : some w.heap.size ≠ (Value.slice ao n cp).ownBlock := by
    intro e
    have := (hown.lt _ e.symm).2
    omega
  have hn0 : (0 : Int) ≤ (n : Int) := Int.natCast_nonneg _
  have hn1 : (n : Int) < (n : Int) + 1 := by omega
  go_region_law
    ((refine step_append_lies _ (by rfl) _ _ _ (by rfl) base 119 i0 _ 13 88 Tryz.underlying47 hi0 hz0 hz1 hz2 rfl (by omega) (.slice ao n cp) n xs (by rfl) (((hown.alloc _).alloc _).drew)
        ⟨w.heap.size + 1, 0, none⟩ 1 1 [.int .i64 0, .int .u32 0, .int .u32 0, .int .u32 0, .int .u32 0, .int .u32 0, .int .u32 0, .int .u32 0, .int .u32 0, .int .i64 0, .int .i64 0, .int .i64 0, .slice none 0 0] (by rfl) (by rfl) (World.news_of_block (cs := #[.int .i64 0, .int .u32 0, .int .u32 0, .int .u32 0, .int .u32 0, .int .u32 0, .int .u32 0, .int .u32 0, .int .u32 0, .int .i64 0, .int .i64 0, .int .i64 0, .slice none 0 0]) (t := 119) (fr := (0, 0)) (heap_two w _ _)) (by simp [Value.oneCell'])
        (by omega) (by unfold maxLen; omega) (by omega) (by simp; omega) (w.heap.size + 1 + 1) (by simp) ?_; intro g cap w1 hown1 hgrow hat hlt; have hth := there_of_owns hown1; obtain ⟨z0, z1, z2, z3, z4, z5, z6, z7, z8, z9, z10, z11, z12, e0, e1, e2, e3, e4, e5, e6, e7, e8, e9, e10, e11, e12⟩ := there_cells hth; obtain ⟨q0, q1, q2, q3, q4, q5, q6, q7, q8, q9, q10, q11, q12⟩ := there_free hth; have r1 : w1.cell? ⟨R, 1, none⟩ = some (.int .i64 pos) := (hgrow.cell_far _ (by simp; omega) (Ne.symm ag)).trans (by go_keep); have r4 : w1.cell? ⟨R, 4, none⟩ = some (.slice ao n cp) := (hgrow.cell_far _ (by simp; omega) (Ne.symm ag)).trans (by go_keep); have rf1 : w1.frozen? ⟨R, 1, none⟩ = false := (hgrow.frozen_far _ (by simp; omega) (Ne.symm ag)).trans (frozen_two w _ _ _ _ lR f1); have rf4 : w1.frozen? ⟨R, 4, none⟩ = false := (hgrow.frozen_far _ (by simp; omega) (Ne.symm ag)).trans (frozen_two w _ _ _ _ lR f4); have gB : g ≠ w.heap.size := (by rintro rfl; rcases hat with hat | hat; exact agB hat.symm; omega); have gR : g ≠ R := (by rintro rfl; rcases hat with hat | hat; exact ag hat; omega)))
  all_goals rw [chain13]
  all_goals first
    | (have hM := put_midA (cs := [Value.int .i64 k, .int .u32 a0, .int .u32 a1, .int .u32 a2, .int .u32 a3, .int .u32 a4, .int .u32 a5, .int .u32 a6, .int .u32 a7, .int .i64 num, .int .i64 least, .int .i64 most, .slice ra rn rc]) pos hR hbase ag hown.1 rfl rfl hown1 hgrow hat hlt r1 r4
       have hfW : ((w1.setCells g (n * 13) [Value.int .i64 k, .int .u32 a0, .int .u32 a1, .int .u32 a2, .int .u32 a3, .int .u32 a4, .int .u32 a5, .int .u32 a6, .int .u32 a7, .int .i64 num, .int .i64 least, .int .i64 most, .slice ra rn rc]).setCell ⟨R, 4, none⟩ (.slice (some ⟨g, 0, none⟩) (n + 1) cap)).frozen? ⟨R, 1, none⟩ = false := by rw [World.frozen?_setCell, World.frozen?_setCells]; exact rf1
       generalize (w1.setCells g (n * 13) [Value.int .i64 k, .int .u32 a0, .int .u32 a1, .int .u32 a2, .int .u32 a3, .int .u32 a4, .int .u32 a5, .int .u32 a6, .int .u32 a7, .int .i64 num, .int .i64 least, .int .i64 most, .slice ra rn rc]).setCell ⟨R, 4, none⟩ (.slice (some ⟨g, 0, none⟩) (n + 1) cap) = W at hM hfW ⊢
       clear hown1 hgrow hat hlt hth e0 e1 e2 e3 e4 e5 e6 e7 e8 e9 e10 e11 e12 q0 q1 q2 q3 q4 q5 q6 q7 q8 q9 q10 q11 q12 r1 r4 rf1 rf4 gB gR
       clear w1)
    | (have hM := put_midB (cs := [Value.int .i64 k, .int .u32 a0, .int .u32 a1, .int .u32 a2, .int .u32 a3, .int .u32 a4, .int .u32 a5, .int .u32 a6, .int .u32 a7, .int .i64 num, .int .i64 least, .int .i64 most, .slice ra rn rc]) pos hR hbase ag hown.1 rfl rfl hown1 hgrow hat hlt r1 r4
       have hfW : ((w1.setCell ⟨R, 4, none⟩ (.slice (some ⟨g, 0, none⟩) (n + 1) cap)).setCells g (n * 13) [Value.int .i64 k, .int .u32 a0, .int .u32 a1, .int .u32 a2, .int .u32 a3, .int .u32 a4, .int .u32 a5, .int .u32 a6, .int .u32 a7, .int .i64 num, .int .i64 least, .int .i64 most, .slice ra rn rc]).frozen? ⟨R, 1, none⟩ = false := by rw [World.frozen?_setCells, World.frozen?_setCell]; exact rf1
       generalize (w1.setCell ⟨R, 4, none⟩ (.slice (some ⟨g, 0, none⟩) (n + 1) cap)).setCells g (n * 13) [Value.int .i64 k, .int .u32 a0, .int .u32 a1, .int .u32 a2, .int .u32 a3, .int .u32 a4, .int .u32 a5, .int .u32 a6, .int .u32 a7, .int .i64 num, .int .i64 least, .int .i64 most, .slice ra rn rc] = W at hM hfW ⊢
       clear hown1 hgrow hat hlt hth e0 e1 e2 e3 e4 e5 e6 e7 e8 e9 e10 e11 e12 q0 q1 q2 q3 q4 q5 q6 q7 q8 q9 q10 q11 q12 r1 r4 rf1 rf4 gB gR
       clear w1)
  all_goals
    have hM1 := hM.choose_spec.choose_spec.2.1
    have HM := hd hM
    clear hM
    go_wp2
    go_end0
    exact ⟨rfl, HM.out.fin _⟩
end Go.Proofs.YtldiemjlpnachaaGreatDoor

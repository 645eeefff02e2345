import Derived.Test.YtldiemjlpnachaaGreatDoorBpl
import Derived.Test.YtldiemjlpnachaaGreatDoorPike
import Derived.Test.YtldiemjlpnachaaGreatDoorBcl
import Derived.Deep.WholeRow
import Derived.Test.YtldiemjlpnachaaGreatDoorBok
import Derived.Test.YtldiemjlpnachaaGreatDoorEntr
set_option maxHeartbeats 1600000
set_option maxRecDepth 100000
namespace Go.Proofs.YtldiemjlpnachaaGreatDoor
open Go.RowKit
theorem fold_set(off:Nat):∀(xs:List Value) (k:Nat) (cs:Array Value),off+k+xs.length<=cs.size->
  ((xs.zipIdx k).foldl (fun cs (x:Value×Nat)=>cs.setIfInBounds (off+x.2) x.1) cs).size=cs.size/\
  (∀j,j<xs.length->((xs.zipIdx k).foldl (fun cs (x:Value×Nat)=>cs.setIfInBounds (off+x.2) x.1) cs)[off+k+j]?=xs[j]?)/\
  (∀i,i<off+k\/off+k+xs.length<=i->((xs.zipIdx k).foldl (fun cs (x:Value×Nat)=>cs.setIfInBounds (off+x.2) x.1) cs)[i]?=cs[i]?)
 | [],k,cs,_=>⟨rfl,fun j hj=>by simp at hj,fun i _=>rfl⟩
 |x::r,k,cs,h=>by
  rw[List.zipIdx_cons,List.foldl_cons]
  simp only[List.length_cons]at h
  obtain⟨h1,h2,h3⟩:=fold_set off r (k+1) (cs.setIfInBounds (off+k) x) (by simp;omega)
  simp only at h1 h2 h3 ⊢
  refine⟨by rw[h1];simp,fun j hj=>?_,fun i hi=>?_⟩
  ·rcases Nat.eq_zero_or_pos j with rfl|h0
   ·rw[h3 (off+k+0) (by omega),Nat.add_zero,List.getElem?_cons_zero,Array.getElem?_setIfInBounds_self_of_lt (by omega)]
   ·obtain⟨m,rfl⟩:∃m,j=m+1:=⟨j-1,by omega⟩
    rw[show off+k+(m+1)=off+(k+1)+m by omega,h2 m (by simp at hj;omega),List.getElem?_cons_succ]
  ·simp only[List.length_cons]at hi
   rw[h3 i (by omega),Array.getElem?_setIfInBounds_ne (by omega)]
theorem fill_one{place:Nat->Option (Nat×Nat)}{cells:Array Value}{i off:Nat}{v:Value}{rest:List (Nat×Value)}(hp:place i=some (off,1))(hv:v.cells= #[v])(hs:off<cells.size):Instr.fill place cells ((i,v)::rest)=Instr.fill place (cells.setIfInBounds off v) rest:=by
 rw[Instr.fill,hp]
 simp only[hv]
 rw[if_neg (by simp;omega)]
 rfl
theorem fill_row{place:Nat->Option (Nat×Nat)}{cells:Array Value}{i off n:Nat}{v:Value}{arr:Array Value}{rest:List (Nat×Value)}(hp:place i=some (off,n))(hv:v.cells=arr)(hn:arr.size=n)(hs:off+n<=cells.size):Instr.fill place cells ((i,v)::rest)=Instr.fill place ((arr.toList.zipIdx 0).foldl (fun cs (x:Value×Nat)=>cs.setIfInBounds (off+x.2) x.1) cells) rest:=by
 rw[Instr.fill,hp]
 simp only[hv]
 rw[if_neg (by simp;omega)]
 congr 1
 rw[<-Array.foldl_toList,Array.toList_zipIdx]
def bs0:Array Value:= #[.pointer none,.string ⟨#[]⟩,.slice none 0 0]++Array.replicate 625 (.int .i64 0)++ #[.slice none 0 0,.int .i64 0,.slice none 0 0,.slice none 0 0,.bool false,.int .i64 0]
def bsP:Array (Nat×Nat):= #[(0,1),(1,1),(2,626),(628,1),(629,1),(630,1),(631,1),(632,1),(633,1)]
theorem info_bs:(Tryz.prog.info? 181).map (fun i=>(i.zero,i.size))=some (some (.agg bs0),634):=by kernel_rfl
theorem und_bs:∃fields,Tryz.prog.underlying 181=some (.struct fields)/\∀w,(fields.mapM fun(f:Field)=>do pure (f.offset,<-sizeOf f.type)).run Tryz.prog w= .ok bsP w:=⟨_,Tryz.underlying181,fun w=>by kernel_rfl⟩
theorem run_bs0(p:Option Addr)(ln:ByteArray)(arr:Array Value)(w:World)(c:Array Value)(hf:Instr.fill (bsP[·]?) bs0 [(0,.pointer p),(1,.string ln),(2,.agg arr)]=some c):(Instr.build 181 #[(0,.pointer p),(1,.string ln),(2,.agg arr)]).run Tryz.prog w= .ok (.agg c) w:=by
 obtain⟨fields,hu,hm⟩:=und_bs
 have hz:=(zero_of_info info_bs).1
 unfold Instr.build
 rw[Sem.run_bind,hz w]
 simp only[Result.andThen_ok]
 rw[Sem.run_bind,run_underlying hu w]
 simp only[Result.andThen_ok]
 rw[Sem.run_bind,hm w]
 simp only[Result.andThen_ok,Value.cells]
 rw[show([(0,Value.pointer p),(1,Value.string ln),(2,Value.agg arr)]:List (Nat×Value))=(#[(0,.pointer p),(1,.string ln),(2,.agg arr)]:Array (Nat×Value)).toList from rfl]at hf
 rw[hf]
 rfl
structure BsOk(cs:Array Value)(p:Option Addr)(ln:ByteArray)(arr:Array Value):Prop where
 size:cs.size=634
 c0:cs[0]?=some (.pointer p)
 c1:cs[1]?=some (.string ln)
 ar:∀j,j<626->cs[2+j]?=arr[j]?
 c628:cs[628]?=some (.slice none 0 0)
 c629:cs[629]?=some (.int .i64 0)
 c630:cs[630]?=some (.slice none 0 0)
 c631:cs[631]?=some (.slice none 0 0)
 c632:cs[632]?=some (.bool false)
 c633:cs[633]?=some (.int .i64 0)
theorem bs0_size:bs0.size=634:=by kernel_rfl
theorem run_bs(p:Option Addr)(ln:ByteArray)(arr:Array Value)(h:arr.size=626):∃cs,BsOk cs p ln arr/\∀w,(Instr.build 181 #[(0,.pointer p),(1,.string ln),(2,.agg arr)]).run Tryz.prog w= .ok (.agg cs) w:=by
 have hz:=bs0_size
 obtain⟨f1,f2,f3⟩:=fold_set 2 arr.toList 0 ((bs0.setIfInBounds 0 (.pointer p)).setIfInBounds 1 (.string ln)) (by simp[h,hz])
 simp only[Array.length_toList,h,Array.size_setIfInBounds,hz]at f1 f2 f3
 have g:∀i,628<=i->((bs0.setIfInBounds 0 (.pointer p)).setIfInBounds 1 (.string ln))[i]?=bs0[i]?:=fun i hi=>by rw[Array.getElem?_setIfInBounds_ne (by omega),Array.getElem?_setIfInBounds_ne (by omega)]
 refine⟨_,⟨f1,?_,?_,fun j hj=>?_,?_,?_,?_,?_,?_,?_⟩,fun w=>?_⟩
 rotate_left 9
 ·refine run_bs0 p ln arr w _ ?_
  rw[fill_one (off:=0) rfl rfl (by omega),fill_one (off:=1) rfl rfl (by simp;omega),fill_row (off:=2) (n:=626) (v:= .agg arr) (arr:=arr) rfl rfl h (by simp[hz])]
  rfl
 ·rw[f3 0 (by omega),Array.getElem?_setIfInBounds_ne (by omega),Array.getElem?_setIfInBounds_self_of_lt (by omega)]
 ·rw[f3 1 (by omega),Array.getElem?_setIfInBounds_self_of_lt (by simp;omega)]
 ·have:=f2 j hj
  rw[Nat.add_zero]at this
  rw[this,Array.getElem?_toList]
 ·rw[f3 628 (by omega),g 628 (by omega)];kernel_rfl
 ·rw[f3 629 (by omega),g 629 (by omega)];kernel_rfl
 ·rw[f3 630 (by omega),g 630 (by omega)];kernel_rfl
 ·rw[f3 631 (by omega),g 631 (by omega)];kernel_rfl
 ·rw[f3 632 (by omega),g 632 (by omega)];kernel_rfl
 ·rw[f3 633 (by omega),g 633 (by omega)];kernel_rfl
theorem run_bsx(cs:Array Value)(w:World):(Instr.box 181 (.agg cs)).run Tryz.prog w= .ok (.pointer (some ⟨w.heap.size,0,none⟩)) (w.alloc (.cells cs 181)):=by kernel_rfl
section
variable {ops : Array Oper} {rest : List Oper} {o : Oper} {a : Act} {w : World} {Q : Exit → Act → World → Prop}
theorem wp_bs(x y z:Operand)(p:Option Addr)(ln:ByteArray)(arr cs:Array Value)(hr:∀w,(Instr.build 181 #[(0,.pointer p),(1,.string ln),(2,.agg arr)]).run Tryz.prog w= .ok (.agg cs) w)(hg:o.guard=none)(ho:o.op= .build 181 #[(0,x),(1,y),(2,z)])(hx:a.eval x= .pointer p)(hy:a.eval y= .string ln)(hz:a.eval z= .agg arr)
  (h:wpList Tryz.prog ops Q rest (a.put o.dst (.agg cs)) w):wpList Tryz.prog ops Q (o::rest) a w:=by
 refine wpList_plain hg fun K hK=>?_
 unfold Oper.wp execOp
 simp only[ho,Sem.run_bind]
 rw[show(#[(0,x),(1,y),(2,z)].map fun(x:Nat×Operand)=>(x.1,a.eval x.2))= #[(0,a.eval x),(1,a.eval y),(2,a.eval z)]from by kernel_rfl,hx,hy,hz,hr]
 exact hK _ _ h
theorem wp_bsx(x:Operand)(cs:Array Value)(hg:o.guard=none)(ho:o.op= .box 181 x)(hx:a.eval x= .agg cs)
  (h:wpList Tryz.prog ops Q rest (a.put o.dst (.pointer (some ⟨w.heap.size,0,none⟩))) (w.alloc (.cells cs 181))):wpList Tryz.prog ops Q (o::rest) a w:=by
 refine wpList_plain hg fun K hK=>?_
 unfold Oper.wp execOp
 simp only[ho,Sem.run_bind]
 rw[hx,run_bsx]
 exact hK _ _ h
end
structure Nb(w W:World)(P o S LB FB lc n:Nat)(s:ByteArray)(num:Nat->Nat->Nat)(L:List (Nat×Nat))(F:Nat->Nat)(K:Int)(vm:Value):Prop where
 bl:Below w.heap.size w W
 s0:W.cell? ⟨S,0,none⟩=some (.pointer (some ⟨P,o,none⟩))
 s1:W.cell? ⟨S,1,none⟩=some (.string s)
 s2:W.cell? ⟨S,2,none⟩=some (.slice (some ⟨LB,0,none⟩) L.length lc)
 nm:∀a b,a<=24->b<=24->W.cell? ⟨S,3+a*25+b,none⟩=some (.int .i64 (num a b))
 s628:W.cell? ⟨S,628,none⟩=some (.slice (some ⟨FB,0,none⟩) n n)
 s629:W.cell? ⟨S,629,none⟩=some (.int .i64 K)
 s630:W.cell? ⟨S,630,none⟩=some vm
 s631:W.cell? ⟨S,631,none⟩=some (.slice none 0 0)
 s632:W.cell? ⟨S,632,none⟩=some (.bool false)
 s633:W.cell? ⟨S,633,none⟩=some (.int .i64 0)
 fS:∀i,W.frozen? ⟨S,i,none⟩=false
 fb:∀q,q<n->W.cell? ⟨FB,q,none⟩=some (.int .u32 (F q))
 ff:∀i,W.frozen? ⟨FB,i,none⟩=false
 pl:∀(j:Nat) z,L[j]?=some z->W.cell? ⟨LB,j*2,none⟩=some (.int .i64 z.1)/\W.cell? ⟨LB,j*2+1,none⟩=some (.int .u32 z.2)
 hS:w.heap.size<=S/\S<W.heap.size
 hF:w.heap.size<=FB/\FB<W.heap.size
 hL:w.heap.size<=LB/\LB<W.heap.size
 dSF:S≠FB
 dSL:S≠LB
 dFL:FB≠LB
section
variable {w W : World} {P o S LB FB lc n : Nat} {s : ByteArray} {num : Nat → Nat → Nat} {L : List (Nat × Nat)} {F : Nat → Nat} {K : Int} {vm : Value}
theorem Nb.drewN(h:Nb w W P o S LB FB lc n s num L F K vm)(k:Nat):Nb w (W.drewN k) P o S LB FB lc n s num L F K vm:=
 ⟨⟨h.bl.os,h.bl.tape,h.bl.output,h.bl.size,h.bl.block⟩,h.s0,h.s1,h.s2,h.nm,h.s628,h.s629,h.s630,h.s631,h.s632,h.s633,h.fS,h.fb,h.ff,h.pl,h.hS,h.hF,h.hL,h.dSF,h.dSL,h.dFL⟩
theorem Nb.drew(h:Nb w W P o S LB FB lc n s num L F K vm):Nb w W.drew P o S LB FB lc n s num L F K vm:=
 ⟨⟨h.bl.os,h.bl.tape,h.bl.output,h.bl.size,h.bl.block⟩,h.s0,h.s1,h.s2,h.nm,h.s628,h.s629,h.s630,h.s631,h.s632,h.s633,h.fS,h.fb,h.ff,h.pl,h.hS,h.hF,h.hL,h.dSF,h.dSL,h.dFL⟩
theorem Nb.setF(h:Nb w W P o S LB FB lc n s num L F K vm){q:Nat}(hq:q<n)(v:Nat):Nb w (W.setCell ⟨FB,q,none⟩ (.int .u32 v)) P o S LB FB lc n s num L (fun p=>if p=q then v else F p) K vm:=by
 have c:∀(b i:Nat),b≠FB->(W.setCell ⟨FB,q,none⟩ (.int .u32 v)).cell? ⟨b,i,none⟩=W.cell? ⟨b,i,none⟩:=fun b i hb=>World.cell?_setCell_far _ _ _ _ (Ne.symm hb)
 have f:∀(b i:Nat),(W.setCell ⟨FB,q,none⟩ (.int .u32 v)).frozen? ⟨b,i,none⟩=W.frozen? ⟨b,i,none⟩:=fun b i=>World.frozen?_setCell _ _ _ _
 have z:(W.setCell ⟨FB,q,none⟩ (.int .u32 v)).heap.size=W.heap.size:=by simp[World.setCell]
 have n1:=h.dSF
 have n2:=Ne.symm h.dFL
 refine⟨h.bl.setCell (by exact h.hF.1) _,(c _ _ n1).trans h.s0,(c _ _ n1).trans h.s1,(c _ _ n1).trans h.s2,fun a b ha hb=>(c _ _ n1).trans (h.nm a b ha hb),(c _ _ n1).trans h.s628,(c _ _ n1).trans h.s629,(c _ _ n1).trans h.s630,(c _ _ n1).trans h.s631,(c _ _ n1).trans h.s632,(c _ _ n1).trans h.s633,fun i=>(f _ _).trans (h.fS i),fun p hp=>?_,fun i=>(f _ _).trans (h.ff i),fun j y hj=>⟨(c _ _ n2).trans (h.pl j y hj).1,(c _ _ n2).trans (h.pl j y hj).2⟩,by rw[z];exact h.hS,by rw[z];exact h.hF,by rw[z];exact h.hL,h.dSF,h.dSL,h.dFL⟩
 by_cases e:p=q
 ·rw[if_pos e,e]
  exact World.cell?_setCell_same _ _ _ (h.fb q hq)
 ·rw[if_neg e,World.cell?_setCell_other _ _ _ _ (by rintro x;injection x with _ x2;exact e x2.symm)]
  exact h.fb p hp
theorem Nb.setK(h:Nb w W P o S LB FB lc n s num L F K vm)(K':Int):Nb w (W.setCell ⟨S,629,none⟩ (.int .i64 K')) P o S LB FB lc n s num L F K' vm:=by
 have c:∀(b i:Nat),(⟨b,i,none⟩:Addr)≠⟨S,629,none⟩->(W.setCell ⟨S,629,none⟩ (.int .i64 K')).cell? ⟨b,i,none⟩=W.cell? ⟨b,i,none⟩:=fun b i hb=>World.cell?_setCell_other _ _ _ _ (Ne.symm hb)
 have f:∀(b i:Nat),(W.setCell ⟨S,629,none⟩ (.int .i64 K')).frozen? ⟨b,i,none⟩=W.frozen? ⟨b,i,none⟩:=fun b i=>World.frozen?_setCell _ _ _ _
 have z:(W.setCell ⟨S,629,none⟩ (.int .i64 K')).heap.size=W.heap.size:=by simp[World.setCell]
 have d:∀i,i≠629->(⟨S,i,none⟩:Addr)≠⟨S,629,none⟩:=fun i hi x=>by injection x with _ x2;exact hi x2
 have n1:∀i,(⟨FB,i,none⟩:Addr)≠⟨S,629,none⟩:=fun i x=>by injection x with x1 _;exact h.dSF x1.symm
 have n2:∀i,(⟨LB,i,none⟩:Addr)≠⟨S,629,none⟩:=fun i x=>by injection x with x1 _;exact h.dSL x1.symm
 exact⟨h.bl.setCell (by exact h.hS.1) _,(c _ _ (d 0 (by omega))).trans h.s0,(c _ _ (d 1 (by omega))).trans h.s1,(c _ _ (d 2 (by omega))).trans h.s2,fun a b ha hb=>(c _ _ (d _ (by omega))).trans (h.nm a b ha hb),(c _ _ (d _ (by omega))).trans h.s628,World.cell?_setCell_same _ _ _ h.s629,(c _ _ (d _ (by omega))).trans h.s630,(c _ _ (d _ (by omega))).trans h.s631,(c _ _ (d _ (by omega))).trans h.s632,(c _ _ (d _ (by omega))).trans h.s633,fun i=>(f _ _).trans (h.fS i),fun p hp=>(c _ _ (n1 p)).trans (h.fb p hp),fun i=>(f _ _).trans (h.ff i),fun j y hj=>⟨(c _ _ (n2 _)).trans (h.pl j y hj).1,(c _ _ (n2 _)).trans (h.pl j y hj).2⟩,by rw[z];exact h.hS,by rw[z];exact h.hF,by rw[z];exact h.hL,h.dSF,h.dSL,h.dFL⟩
theorem Nb.setM(h:Nb w W P o S LB FB lc n s num L F K vm)(v:Value):Nb w (W.setCell ⟨S,630,none⟩ v) P o S LB FB lc n s num L F K v:=by
 have c:∀(b i:Nat),(⟨b,i,none⟩:Addr)≠⟨S,630,none⟩->(W.setCell ⟨S,630,none⟩ v).cell? ⟨b,i,none⟩=W.cell? ⟨b,i,none⟩:=fun b i hb=>World.cell?_setCell_other _ _ _ _ (Ne.symm hb)
 have f:∀(b i:Nat),(W.setCell ⟨S,630,none⟩ v).frozen? ⟨b,i,none⟩=W.frozen? ⟨b,i,none⟩:=fun b i=>World.frozen?_setCell _ _ _ _
 have z:(W.setCell ⟨S,630,none⟩ v).heap.size=W.heap.size:=by simp[World.setCell]
 have d:∀i,i≠630->(⟨S,i,none⟩:Addr)≠⟨S,630,none⟩:=fun i hi x=>by injection x with _ x2;exact hi x2
 have n1:∀i,(⟨FB,i,none⟩:Addr)≠⟨S,630,none⟩:=fun i x=>by injection x with x1 _;exact h.dSF x1.symm
 have n2:∀i,(⟨LB,i,none⟩:Addr)≠⟨S,630,none⟩:=fun i x=>by injection x with x1 _;exact h.dSL x1.symm
 exact⟨h.bl.setCell (by exact h.hS.1) _,(c _ _ (d 0 (by omega))).trans h.s0,(c _ _ (d 1 (by omega))).trans h.s1,(c _ _ (d 2 (by omega))).trans h.s2,fun a b ha hb=>(c _ _ (d _ (by omega))).trans (h.nm a b ha hb),(c _ _ (d _ (by omega))).trans h.s628,(c _ _ (d _ (by omega))).trans h.s629,World.cell?_setCell_same _ _ _ h.s630,(c _ _ (d _ (by omega))).trans h.s631,(c _ _ (d _ (by omega))).trans h.s632,(c _ _ (d _ (by omega))).trans h.s633,fun i=>(f _ _).trans (h.fS i),fun p hp=>(c _ _ (n1 p)).trans (h.fb p hp),fun i=>(f _ _).trans (h.ff i),fun j y hj=>⟨(c _ _ (n2 _)).trans (h.pl j y hj).1,(c _ _ (n2 _)).trans (h.pl j y hj).2⟩,by rw[z];exact h.hS,by rw[z];exact h.hF,by rw[z];exact h.hL,h.dSF,h.dSL,h.dFL⟩
theorem Nb.alloc(h:Nb w W P o S LB FB lc n s num L F K vm)(ob:Obj):Nb w (W.alloc ob) P o S LB FB lc n s num L F K vm:=by
 have c:∀(b i:Nat),b<W.heap.size->(W.alloc ob).cell? ⟨b,i,none⟩=W.cell? ⟨b,i,none⟩:=fun b i hb=>World.cell?_alloc_lt _ _ _ hb
 have f:∀(b i:Nat),b<W.heap.size->(W.alloc ob).frozen? ⟨b,i,none⟩=W.frozen? ⟨b,i,none⟩:=fun b i hb=>World.frozen?_alloc_old _ _ _ (by show b≠_;omega)
 have n1:=h.hS.2
 have n2:=h.hF.2
 have n3:=h.hL.2
 exact⟨h.bl.alloc h.bl.size _,(c _ _ n1).trans h.s0,(c _ _ n1).trans h.s1,(c _ _ n1).trans h.s2,fun a b ha hb=>(c _ _ n1).trans (h.nm a b ha hb),(c _ _ n1).trans h.s628,(c _ _ n1).trans h.s629,(c _ _ n1).trans h.s630,(c _ _ n1).trans h.s631,(c _ _ n1).trans h.s632,(c _ _ n1).trans h.s633,fun i=>(f _ _ n1).trans (h.fS i),fun p hp=>(c _ _ n2).trans (h.fb p hp),fun i=>(f _ _ n2).trans (h.ff i),fun j y hj=>⟨(c _ _ n3).trans (h.pl j y hj).1,(c _ _ n3).trans (h.pl j y hj).2⟩,⟨h.hS.1,by simp;omega⟩,⟨h.hF.1,by simp;omega⟩,⟨h.hL.1,by simp;omega⟩,h.dSF,h.dSL,h.dFL⟩
end
end Go.Proofs.YtldiemjlpnachaaGreatDoor
namespace Go.Proofs.YtldiemjlpnachaaGreatDoor
open Go.RowKit
def mkQ(n:Nat):Array Value:=madeCells (Value.pointer none).cells (n*1)
theorem mkQ_get{n i:Nat}(h:i<n):(mkQ n)[i]?=some (.pointer none):=by
 unfold mkQ madeCells
 rw[Array.getElem?_map,Array.getElem?_range]
 simp[h,Value.cells,Nat.mod_one]
theorem mk_sets(n:Nat)(hn:n<=200000)(w:World):(Instr.makeSlice 179 (.int .i64 n) (.int .i64 n)).run Tryz.prog w= .ok (.slice (some ⟨w.heap.size,0,none⟩) n n) (w.alloc (.cells (mkQ n) 167)):=by
 obtain⟨i0,hi0,hz0,hz1,hz2⟩:=info_parts info_pset
 have:=run_make (P:=Tryz.prog) w 179 167 i0 _ uPset hi0 hz0 .i64 .i64 n n (by omega) (Int.le_refl _) (by rw[hz2];omega) (by omega)
 rw[hz1,Int.toNat_natCast]at this
 exact this
def fOf:Sd->Nat->Bool
 |(.one f _,_)=>f
 |_=>noS
theorem SdAt.set{w:World}{G q fi:Nat}{x:Sd}(h:SdAt w G q fi x):SetIs w G (q*14+1) (fOf x):=by
 obtain⟨c,hc,hcell⟩:=h
 intro i hi
 have hi8:i=0\/i=1\/i=2\/i=3\/i=4\/i=5\/i=6\/i=7:=by omega
 obtain⟨k,d⟩:=x
 have fin:∀(a:Nat->Int) (kk s n o:Int),c=stepCells kk a s n o d fi->Word (a i) (fOf (k,d)) i->∃z:Int,w.cell? ⟨G,q*14+1+i,none⟩=some (.int .u32 z)/\Word z (fOf (k,d)) i:=fun a kk s n o e hw=>by
  refine⟨a i,?_,hw⟩
  have:=hcell (1+i) (.int .u32 (a i)) (by rw[e];rcases hi8 with rfl|rfl|rfl|rfl|rfl|rfl|rfl|rfl<;>rfl)
  rw[show q*14+1+i=q*14+(1+i) by omega]
  exact this
 cases k with
 |one f n=>obtain⟨a,e,hw⟩:=hc;exact fin a _ _ _ _ e (hw i hi)
 |_=>exact fin _ _ _ _ _ hc (Word.zero i)
def NbOut(w w':World)(P o n k:Nat)(s:ByteArray)(D:List Sd)(e:Ending):Prop:=
 ∃(S LB FB lc MB room:Nat) (num:Nat->Nat->Nat) (L:List (Nat×Nat)) (F:Nat->Nat),e= .returned (.pointer (some ⟨S,0,none⟩))/\Nb w w' P o S LB FB lc n s num L F (26+(L.length:Int)) (.slice (some ⟨MB,0,none⟩) room room)/\room=(if k=1 then 26+L.length else(26+L.length)*(26+L.length))/\
  w'.heap[MB]?=some (.cells (mkQ room) 167 (0,0))/\w.heap.size<=MB/\MB<w'.heap.size/\MB≠S/\MB≠LB/\MB≠FB/\(∀(q:Nat) x,D[q]?=some x->F q=bf (fun i=>fOf x (ch s.data.toList i)) s.size)/\PIv s.data.toList num L (fun _ _=>True)/\L.length<=325
theorem Nb.first{w w1:World}{P o LB lc n:Nat}{s:ByteArray}{num:Nat->Nat->Nat}{L:List (Nat×Nat)}{cs arr:Array Value}{T:TypeId}(hb:Below w.heap.size w w1)(hc:BsOk cs (some ⟨P,o,none⟩) s arr)(h2:cs[2]?=some (.slice (some ⟨LB,0,none⟩) L.length lc))(hn:∀a b,a<=24->b<=24->cs[3+a*25+b]?=some (.int .i64 (num a b)))(hL:w.heap.size<=LB/\LB<w1.heap.size)(hp:∀(j:Nat) z,L[j]?=some z->w1.cell? ⟨LB,j*2,none⟩=some (.int .i64 z.1)/\w1.cell? ⟨LB,j*2+1,none⟩=some (.int .u32 z.2)):
  Nb w (((w1.alloc (.cells cs T)).alloc (.cells (mkP n) 171)).setCell ⟨w1.heap.size,628,none⟩ (.slice (some ⟨w1.heap.size+1,0,none⟩) n n)) P o w1.heap.size LB (w1.heap.size+1) lc n s num L (fun _=>0) 0 (.slice none 0 0):=by
 have hS:((w1.alloc (.cells cs T)).alloc (.cells (mkP n) 171)).heap[w1.heap.size]?=some (.cells cs T (0,0)):=(Below.heap_alloc _ _ _ (by simp)).trans (heap_alloc_new w1 _)
 have hF:((w1.alloc (.cells cs T)).alloc (.cells (mkP n) 171)).heap[w1.heap.size+1]?=some (.cells (mkP n) 171 (0,0)):=heap_alloc_at (by simp)
 have c:∀i,i≠628->(((w1.alloc (.cells cs T)).alloc (.cells (mkP n) 171)).setCell ⟨w1.heap.size,628,none⟩ (.slice (some ⟨w1.heap.size+1,0,none⟩) n n)).cell? ⟨w1.heap.size,i,none⟩=cs[i]?:=fun i hi=>by
  rw[World.cell?_setCell_other _ _ _ _ (by rintro e;injection e with _ e2;exact hi e2.symm),cell_of_row _ _ _ _ _ _ hS]
 have z:(((w1.alloc (.cells cs T)).alloc (.cells (mkP n) 171)).setCell ⟨w1.heap.size,628,none⟩ (.slice (some ⟨w1.heap.size+1,0,none⟩) n n)).heap.size=w1.heap.size+2:=by simp[World.setCell]
 have far:∀(b i:Nat),b<w1.heap.size->(((w1.alloc (.cells cs T)).alloc (.cells (mkP n) 171)).setCell ⟨w1.heap.size,628,none⟩ (.slice (some ⟨w1.heap.size+1,0,none⟩) n n)).cell? ⟨b,i,none⟩=w1.cell? ⟨b,i,none⟩:=fun b i hb=>by
  rw[World.cell?_setCell_far _ _ _ _ (by show w1.heap.size≠b;omega),World.cell?_alloc_lt _ _ _ (by simp;omega),World.cell?_alloc_lt _ _ _ hb]
 have hsz:=hb.size
 refine⟨below_put ((hb.alloc hb.size _).alloc (by simp;omega) _) _ _ hb.size _,(c 0 (by omega)).trans hc.c0,(c 1 (by omega)).trans hc.c1,(c 2 (by omega)).trans h2,fun a b ha hb'=>(c _ (by omega)).trans (hn a b ha hb'),World.cell?_setCell_same _ _ _ (by rw[cell_of_row _ _ _ _ _ _ hS];exact hc.c628),(c _ (by omega)).trans hc.c629,(c _ (by omega)).trans hc.c630,(c _ (by omega)).trans hc.c631,(c _ (by omega)).trans hc.c632,(c _ (by omega)).trans hc.c633,fun i=>by rw[World.frozen?_setCell];exact frozen_blk hS,fun q hq=>?_,fun i=>by rw[World.frozen?_setCell];exact frozen_blk hF,fun j y hj=>⟨(far _ _ hL.2).trans (hp j y hj).1,(far _ _ hL.2).trans (hp j y hj).2⟩,⟨hsz,by rw[z];omega⟩,⟨by omega,by rw[z];omega⟩,⟨hL.1,by rw[z];omega⟩,by omega,by omega,by omega⟩
 rw[World.cell?_setCell_far _ _ _ _ (by show w1.heap.size≠w1.heap.size+1;omega),cell_of_row _ _ _ _ _ _ hF]
 exact mkP_get hq
theorem newBack_any{w:World}{P o G cap k:Nat}{D:List Sd}{s:ByteArray}(hs:s.size<=24)(p0:w.cell? ⟨P,o,none⟩=some (.slice (some ⟨G,0,none⟩) D.length cap))(p2:w.cell? ⟨P,o+2,none⟩=some (.int .i64 k))(hst:∀(q:Nat) x,D[q]?=some x->SdAt w G q (fi D q) x)(hG:G<w.heap.size)(hD:D.length<=1000)(hk:k=1\/k=2):
  Calls Tryz.prog 87 #[.pointer (some ⟨P,o,none⟩),.string s] w fun e w'=>NbOut w w' P o D.length k s D e:=by
 have hs1:(s.size:Int)<=24:=by omega
 have hD1:(D.length:Int)<=1000:=by omega
 have Hl:=hd (len_data s)
 have Hst:=hd hst
 have lP:=World.block_lt_of_cell? w _ p0
 simp only at lP
 have Hp0:=hd p0
 have Hp2:=hd p2
 clear hst p0 p2
 go_enter Tryz.func87,Tryz.ntmps87
 go_wp2_with fail
 refine(partsOf_any w s hs).mono ?_
 rintro e1 w1 ⟨hb1,num,L,LB,lc,rfl,hg1,hg2,hpl,hv,hL,hnm⟩
 obtain⟨cs,hcs,hrun⟩:=run_bs (some ⟨P,o,none⟩) s (ptL (.slice (some ⟨LB,0,none⟩) L.length lc) num).toArray (by rw[List.size_toArray,ptL_len])
 have Hc2:Hid (cs[2]?=some (.slice (some ⟨LB,0,none⟩) L.length lc)):=hd (by have:=hcs.ar 0 (by omega);rw[Nat.add_zero]at this;rw[this,List.getElem?_toArray];rfl)
 have Hnum:Hid (∀a b,a<=24->b<=24->cs[3+a*25+b]?=some (.int .i64 (num a b))):=hd (fun a b ha hb=>by
  have:=hcs.ar (1+a*25+b) (by omega)
  rw[show 3+a*25+b=2+(1+a*25+b) by omega,this,List.getElem?_toArray,ptL_num _ _ ha hb])
 have Hcs:=hd hcs
 have Hrun:=hd hrun
 have Hb1:=hd hb1
 have Hpl:=hd hpl
 have Hv:=hd hv
 have HnL:Hid (w.heap.size<=LB/\LB<w1.heap.size):=hd ⟨hg1,hg2⟩
 clear hcs hrun hb1 hpl hv hnm hg1 hg2
 generalize (ptL (.slice (some ⟨LB,0,none⟩) L.length lc) num).toArray=arr at*
 go_upto_region 2 with(first|refine wp_bs (.tmp 11) (.tmp 12) (.tmp 14) _ _ arr cs Hrun.out rfl rfl rfl rfl rfl ?_|refine wp_bsx (.tmp 15) cs rfl rfl rfl ?_)
 have HNb:=hd (Nb.first (n:=D.length) (T:=181) Hb1.out Hcs.out Hc2.out Hnum.out HnL.out Hpl.out)
 have q0:(w1.alloc (.cells cs 181)).cell? ⟨P,o,none⟩=some (.slice (some ⟨G,0,none⟩) D.length cap):=(World.cell?_alloc_lt _ _ _ (by have:=Hb1.out.size;show P<_;omega)).trans ((Hb1.out.cell (by exact lP)).trans Hp0.out)
 have q628:(w1.alloc (.cells cs 181)).cell? ⟨w1.heap.size,628,none⟩=some (.slice none 0 0):=by rw[cell_of_row _ _ _ _ _ _ (heap_alloc_new w1 _)];exact Hcs.out.c628
 have qf:(w1.alloc (.cells cs 181)).frozen? ⟨w1.heap.size,628,none⟩=false:=frozen_blk (heap_alloc_new w1 _)
 have hPS:P≠w1.heap.size:=by have:=Hb1.out.size;omega
 have hz1:(w1.alloc (.cells cs 181)).heap.size=w1.heap.size+1:=by simp
 rw[<-hz1]at HNb
 have hmk:=mk_places D.length (by omega)
 generalize hS:w1.heap.size=S at*
 generalize w1.alloc (.cells cs 181)=W2 at*
 have lS:S<W2.heap.size:=by omega
 have lP2:P<W2.heap.size:=World.block_lt_of_cell? _ _ q0
 have HS1:=hd hS
 have Hz1:=hd hz1
 clear hS hz1 Hcs Hrun Hc2 Hnum
 go_upto_region 3 with fail
 have HN1:Hid (Nb w ((W2.setCell ⟨S,628,none⟩ (.slice (some ⟨W2.heap.size,0,none⟩) D.length D.length)).alloc (.cells (mkP D.length) 171)) P o S LB W2.heap.size lc D.length s num L (fun _=>0) 0 (.slice none 0 0)):=hd (by
  have h:=HNb.out
  rw[World.setCell_alloc_past _ _ _ _ lS]at h
  exact h)
 generalize (W2.setCell ⟨S,628,none⟩ (.slice (some ⟨W2.heap.size,0,none⟩) D.length D.length)).alloc (.cells (mkP D.length) 171)=W3 at*
 generalize W2.heap.size=FB at*
 clear HNb q0 q628 qf hPS hmk lS lP2 Hz1
 have hfr:∀(W:World),Below w.heap.size w W->W.cell? ⟨P,o,none⟩=some (.slice (some ⟨G,0,none⟩) D.length cap):=fun W h=>(h.cell (by exact lP)).trans Hp0.out
 have Hfr:=hd hfr
 have r0:=hfr W3 HN1.out.bl
 clear hfr
 go_wp2_with fail
 go_loopg [31] (D.length+1) (fun f iv wr=>∃(t:Nat) (F:Nat->Nat),iv= .int .i64 t/\t<=D.length/\D.length<t+f/\Hid (Nb w wr P o S LB FB lc D.length s num L F 0 (.slice none 0 0))/\Hid (∀(q:Nat) x,q<t->D[q]?=some x->F q=bf (fun i=>fOf x (ch s.data.toList i)) s.size)/\Hid (∀q,t<=q->F q=0))
 case atStart=>exact⟨0,_,rfl,Nat.zero_le _,by omega,HN1,hd (fun q x h=>by omega),hd (fun _ _=>rfl)⟩
 case round=>
  obtain⟨t,F,rfl,ht,hf,HN,HF1,HF2⟩:=hrel
  have r0:=Hfr.out wr HN.out.bl
  have ht0:(0:Int)<=(t:Int):=by omega
  by_cases hlt:t<D.length
  ·have hlt1:(t:Int)<(D.length:Int):=by omega
   obtain⟨gf,rfl⟩:∃f,gk=f+1:=⟨gk-1,by omega⟩
   obtain⟨x,hx⟩:∃x,D[t]?=some x:=⟨D[t],List.getElem?_eq_getElem hlt⟩
   have Hx:=hd hx
   clear hx
   go_wp2_with fail
   go_loopg [8] (s.size+1) (fun f kv wr=>∃(j:Nat) (F:Nat->Nat),kv= .int .i64 j/\j<=s.size/\s.size<j+f/\Hid (Nb w wr P o S LB FB lc D.length s num L F 0 (.slice none 0 0))/\Hid (∀(q:Nat) x,q<t->D[q]?=some x->F q=bf (fun i=>fOf x (ch s.data.toList i)) s.size)/\Hid (∀q,t<q->F q=0)/\Hid (F t=bf (fun i=>fOf x (ch s.data.toList i)) j))
   case atStart=>exact⟨0,F,rfl,Nat.zero_le _,by omega,HN,HF1,hd (fun q h=>HF2.out q (by omega)),hd (HF2.out t (Nat.le_refl _))⟩
   case round=>
    obtain⟨j,F',rfl,hj,hf2,HN',HA,HB,HC⟩:=hrel
    have hj0:(0:Int)<=(j:Int):=by omega
    have hset:=SdAt.set (Hst.out t x Hx.out)
    have hsw:SetIs wr G (t*14+1) (fOf x):=fun i hi=>by
     obtain⟨z,h1,h2⟩:=hset i hi
     exact⟨z,(HN'.out.bl.cell (by exact hG)).trans h1,h2⟩
    by_cases hjl:j<s.size
    ·have hjl1:(j:Int)<(s.size:Int):=by omega
     have Hh:Hid (∀W:World,SetIs W G (t*14+1) (fOf x)->Calls Tryz.prog 93 #[.pointer (some ⟨G,t*14+1,none⟩),.int .u8 (s[j]'hjl).toNat] W fun e w'=>e= .returned (.bool (fOf x (ch s.data.toList j)))/\w'=W):=hd (fun W hW=>by
      have:=has_any G (t*14+1) (s[j]'hjl).toNat (fOf x) W (by have:=(s[j]'hjl).toNat_lt;omega) hW
      rw[ch_get s j hjl]at this
      rw[ch_get s j hjl]
      exact this)
     have Hsw:=hd hsw
     clear hset hsw
     have Hbf:Hid (bf (fun i=>fOf x (ch s.data.toList i)) (j+1)=bf (fun i=>fOf x (ch s.data.toList i)) j|||(if fOf x (ch s.data.toList j)=true then 2^j else 0)):=hd rfl
     have HbfL:Hid (bf (fun i=>fOf x (ch s.data.toList i)) j<2^25):=hd (Nat.lt_of_lt_of_le (bf_lt _ j) (Nat.pow_le_pow_right (by omega) (by omega)))
     cases hbv:fOf x (ch s.data.toList j)
     ·rw[hbv]at Hh Hbf
      have HC1:Hid (F' t=bf (fun i=>fOf x (ch s.data.toList i)) (j+1)):=hd (by rw[HC.out,Hbf.out];simp)
      clear hbv Hbf
      go_wp2_with fail
      go_region_with ((go_at_call 93;refine(Hh.out _ (by exact Hsw.out.drew)).mono ?_;rintro e w' ⟨rfl,rfl⟩))
      have HNd:=hd HN'.out.drew
      go_wp2
      go_roundg (gk-1)
      case measure=>omega
      case rel=>exact⟨j+1,F',by go_num,by omega,by omega,HNd,HA,HB,HC1⟩
     ·rw[hbv]at Hh Hbf
      have r628:=HN'.out.s628
      have rF:=HN'.out.fb t hlt
      have fF:=HN'.out.ff t
      rw[HC.out]at rF
      have HNs:Hid (Nb w (wr.setCell ⟨FB,t,none⟩ (.int .u32 (bf (fun i=>fOf x (ch s.data.toList i)) (j+1):Nat))) P o S LB FB lc D.length s num L (fun p=>if p=t then bf (fun i=>fOf x (ch s.data.toList i)) (j+1)else F' p) 0 (.slice none 0 0)):=hd (HN'.out.setF hlt _)
      have HZ:Hid (bf (fun i=>fOf x (ch s.data.toList i)) (j+1)=bf (fun i=>fOf x (ch s.data.toList i)) j|||2^j):=hd (by rw[Hbf.out];rfl)
      have HA1:Hid (∀(q:Nat) y,q<t->D[q]?=some y->(if q=t then bf (fun i=>fOf x (ch s.data.toList i)) (j+1)else F' q)=bf (fun i=>fOf y (ch s.data.toList i)) s.size):=hd (fun q y hq hy=>by rw[if_neg (by omega)];exact HA.out q y hq hy)
      have HB1:Hid (∀q,t<q->(if q=t then bf (fun i=>fOf x (ch s.data.toList i)) (j+1)else F' q)=0):=hd (fun q hq=>by rw[if_neg (by omega)];exact HB.out q hq)
      have Hor:Hid (bits .or .u32 ((bf (fun i=>fOf x (ch s.data.toList i)) j:Nat):Int) ((2^j:Nat):Int)=((bf (fun i=>fOf x (ch s.data.toList i)) (j+1):Nat):Int)):=hd (by rw[HZ.out];exact u32_or_nat _ _ (p25 HbfL.out) (two_lt (by omega)))
      have Hon:=hd (fun W:World=>only_any W (j:Int) j rfl (show j<=25 by omega))
      have lS3:=HN'.out.hS.2
      have lF3:=HN'.out.hF.2
      have dSF:=HN'.out.dSF
      clear hbv Hbf HZ HN' HA HB HC
      generalize hz1:bf (fun i=>fOf x (ch s.data.toList i)) (j+1)=z1 at*
      have HZ1:=hd hz1
      clear hz1
      generalize bf (fun i=>fOf x (ch s.data.toList i)) j=z0 at*
      go_wp2_with fail
      go_region_with ((go_at_call 93;refine(Hh.out _ (by exact Hsw.out.drew)).mono ?_;rintro e w' ⟨rfl,rfl⟩))
      generalize 2^j=tj at*
      go_wp2_with fail
      have hor:=Hor.out
      go_region_with ((go_at_call 90;refine(Hon.out _).mono ?_;rintro e w' ⟨rfl,rfl⟩))
      all_goals
       go_wp2
       go_roundg (gk-1)
       case measure=>omega
       case rel=>exact⟨j+1,_,by go_num,by omega,by omega,hd HNs.out.drew.drew,HA1,HB1,hd ((if_pos rfl).trans HZ1.out.symm)⟩
    ·obtain rfl:j=s.size:=by omega
     have HAx:Hid (∀(q:Nat) y,q<t+1->D[q]?=some y->F' q=bf (fun i=>fOf y (ch s.data.toList i)) s.size):=hd (fun q y hq hy=>by
      rcases Nat.lt_or_ge q t with h|h
      ·exact HA.out q y h hy
      ·obtain rfl:q=t:=by omega
       rw[Hx.out]at hy
       cases hy
       exact HC.out)
     have HBx:Hid (∀q,t+1<=q->F' q=0):=hd (fun q hq=>HB.out q (by omega))
     clear hset hsw
     go_wp2
     go_roundg gf
     case measure=>omega
     case rel=>exact⟨t+1,F',by go_num,by omega,by omega,HN',HAx,HBx⟩
  ·obtain rfl:t=D.length:=by omega
   have r2:=HN.out.s2
   have r629:=HN.out.s629
   have f629:=HN.out.fS 629
   have HK1:=hd (HN.out.setK (26+(L.length:Int)))
   have HFx:Hid (∀(q:Nat) x,D[q]?=some x->F q=bf (fun i=>fOf x (ch s.data.toList i)) s.size):=hd (fun q x hx=>HF1.out q x (List.getElem?_eq_some_iff.1 hx).1 hx)
   have hLi:(L.length:Int)<=325:=by omega
   clear HN HF1 HF2 r0
   go_upto_region 14 with fail
   generalize wr.setCell ⟨S,629,none⟩ (.int .i64 (26+(L.length:Int)))=W4 at*
   have Hf2:Hid (∀(W:World),Below w.heap.size w W->W.cell? ⟨P,o+2,none⟩=some (.int .i64 k)):=hd (fun W h=>(h.cell (by exact lP)).trans Hp2.out)
   have q2:=Hf2.out W4 HK1.out.bl
   have q629:=HK1.out.s629
   have q630:=HK1.out.s630
   have qf630:=HK1.out.fS 630
   have lS4:=HK1.out.hS.2
   have hmk:∀n:Nat,n<=200000->∀W,(Instr.makeSlice 179 (.int .i64 n) (.int .i64 n)).run Tryz.prog W= .ok (.slice (some ⟨W.heap.size,0,none⟩) n n) (W.alloc (.cells (mkQ n) 167)):=mk_sets
   have Hmk:=hd hmk
   clear r2 r629 f629 hmk
   obtain⟨KN,hKN⟩:∃KN,KN=26+L.length:=⟨_,rfl⟩
   have hKe:26+(L.length:Int)=(KN:Int):=by omega
   rw[hKe]at q629 HK1
   obtain⟨KK,hKK⟩:∃KK,KK=KN*KN:=⟨_,rfl⟩
   have hKK1:(KN:Int)*(KN:Int)=(KK:Int):=by rw[hKK];exact(Int.natCast_mul KN KN).symm
   have hKK2:KK<=200000:=by
    have:KN*KN<=351*351:=Nat.mul_le_mul (by omega) (by omega)
    omega
   have HFin:Hid (∀room:Nat,room=(if k=1 then KN else KK)->NbOut w ((W4.setCell ⟨S,630,none⟩ (.slice (some ⟨W4.heap.size,0,none⟩) room room)).alloc (.cells (mkQ room) 167)) P o D.length k s D (.returned (.pointer (some ⟨S,0,none⟩)))):=hd (fun room hr=>by
    have h1:=(HK1.out.alloc (.cells (mkQ room) 167)).setM (.slice (some ⟨W4.heap.size,0,none⟩) room room)
    rw[World.setCell_alloc_past _ _ _ _ lS4]at h1
    have hh:((W4.setCell ⟨S,630,none⟩ (.slice (some ⟨W4.heap.size,0,none⟩) room room)).alloc (.cells (mkQ room) 167)).heap[W4.heap.size]?=some (.cells (mkQ room) 167 (0,0)):=heap_alloc_at (by simp[World.setCell])
    have n1:=HK1.out.hS.2
    have n2:=HK1.out.hF.2
    have n3:=HK1.out.hL.2
    rw[<-hKe]at h1
    refine⟨S,LB,FB,lc,W4.heap.size,room,num,L,F,rfl,h1,by rw[hr,hKK,hKN],hh,HK1.out.bl.size,by simp[World.setCell],by omega,by omega,by omega,HFx.out,Hv.out,hL⟩)
   have hN1:KN<=351:=by omega
   have hN1i:(KN:Int)<=351:=by omega
   have hN0i:(26:Int)<=(KN:Int):=by omega
   have hKK2i:(KK:Int)<=200000:=by omega
   clear hKN hKK hKe HK1 Hf2 HFx
   go_wp2_with fail
   go_loopg [9,10] 3 (fun f rv kv wr=>∃(j:Nat),kv= .int .i64 j/\j<=k/\k<j+f/\wr=W4/\rv= .int .i64 (if j=0 then 1 else if j=1 then(KN:Int)else(KK:Int)))
   case atStart=>exact⟨0,rfl,Nat.zero_le _,by omega,rfl,rfl⟩
   case round=>
    obtain⟨j,rfl,hj,hf3,rfl,rfl⟩:=hrel
    by_cases hjk:j<k
    ·have hjk1:(j:Int)<(k:Int):=by omega
     rcases(show j=0\/j=1 by omega)with rfl|rfl
     ·go_wp2
      go_roundg (gk-1)
      case measure=>omega
      case rel=>exact⟨1,by go_num,by omega,by omega,rfl,by simp⟩
     ·go_wp2
      go_roundg (gk-1)
      case measure=>omega
      case rel=>exact⟨2,by go_num,by omega,by omega,rfl,by simp⟩
    ·obtain rfl:j=k:=by omega
     have hnk:¬(j:Int)<(j:Int):=by omega
     rcases hk with rfl|rfl
     ·have hm:=Hmk.out KN (by omega)
      have HF1:=hd (HFin.out KN (by simp))
      clear Hmk HFin
      go_wp2
      go_ret
      exact HF1.out
     ·have hm:=Hmk.out KK (by omega)
      have HF1:=hd (HFin.out KK (by simp))
      clear Hmk HFin
      go_wp2
      go_ret
      exact HF1.out
end Go.Proofs.YtldiemjlpnachaaGreatDoor
namespace Go.Proofs.YtldiemjlpnachaaGreatDoor
open Go.RowKit
theorem bf_self{z:Nat}(h:z<2^25):bf (fun i=>z.testBit i) 25=z:=by
 apply Nat.eq_of_testBit_eq
 intro i
 rw[bf_bit]
 by_cases hi:i<25
 ·simp[hi]
 ·rw[Nat.testBit_lt_two_pow (Nat.lt_of_lt_of_le h (Nat.pow_le_pow_right (by omega) (by omega)))]
  simp[hi]
theorem levs_bd{D:List Sd}(hd:∀x∈D,x.2<=300)(hl:D.length<=1000):levs (D.map Prod.snd)<=301000:=by
 have h1:=levs_le (D.map Prod.snd) 300 (fun d h=>by obtain⟨x,hx,rfl⟩:=List.mem_map.1 h;exact hd x hx)
 rw[List.length_map]at h1
 omega
theorem prt_cells{L:List (Nat×Nat)}{num:Nat->Nat->Nat}{l:List UInt8}(h:PIv l num L (fun _ _=>True)){j:Nat}(hj:j<L.length):∃z,L[j]?=some z/\(prtOf num L).sz j=z.1/\bf ((prtOf num L).at_ j) 25=z.2/\z.1<=l.length:=by
 refine⟨L[j],List.getElem?_eq_getElem hj,?_,?_,?_⟩
 ·show(L.getD j (0,0)).1=_
  rw[List.getD_eq_getElem?_getD,List.getElem?_eq_getElem hj];rfl
 ·show bf (fun i=>(L.getD j (0,0)).2.testBit i) 25=_
  rw[List.getD_eq_getElem?_getD,List.getElem?_eq_getElem hj]
  obtain⟨a,b,_,_,e⟩:=h.all j L[j] (List.getElem?_eq_getElem hj)
  simp only[Option.getD_some]
  rw[e]
  exact bf_self (bf_lt _ _)
 ·obtain⟨a,b,_,h2,e⟩:=h.all j L[j] (List.getElem?_eq_getElem hj)
  rw[e]
  show b-a<=_
  omega
theorem newBack_ok{w:World}{P o G cap:Nat}{s:ByteArray}{rf:List Nat}{r:List Tr}(hs:s.size<=24)(hrf:rf≠ [])(hr2:rf.length<=2)(hok:okTs rf (fun _=>false) r=true)
  (p0:w.cell? ⟨P,o,none⟩=some (.slice (some ⟨G,0,none⟩) (buildD rf r).1.length cap))(p1:w.cell? ⟨P,o+1,none⟩=some (.int .i64 (buildD rf r).2))(p2:w.cell? ⟨P,o+2,none⟩=some (.int .i64 rf.length))(p3:w.cell? ⟨P,o+3,none⟩=some (.int .i64 (levs ((buildD rf r).1.map Prod.snd))))
  (hst:∀(q:Nat) x,(buildD rf r).1[q]?=some x->SdAt w G q (fi (buildD rf r).1 q) x)(hG:G<w.heap.size)(hD:(buildD rf r).1.length<=1000)(hdm:∀x∈(buildD rf r).1,x.2<=300):
  Calls Tryz.prog 87 #[.pointer (some ⟨P,o,none⟩),.string s] w fun e w'=>∃Δ G',e= .returned (.pointer (some ⟨Δ.S,0,none⟩))/\NewOk w w' P o s (fun i j=>∃μ,MgRow s.data.toList rf r (i,fun _=> .no) (j,μ)) Δ G':=by
 have hk:rf.length=1\/rf.length=2:=by
  have:0<rf.length:=List.length_pos_iff.2 hrf
  omega
 have lP:=World.block_lt_of_cell? w _ p0
 simp only at lP
 refine(newBack_any (k:=rf.length) hs p0 p2 hst hG hD hk).mono ?_
 rintro e w' ⟨S,LB,FB,lc,MB,room,num,L,F,rfl,nb,hroom,hM,m1,m2,m3,m4,m5,hF,hv,hL⟩
 obtain⟨G',ty,en⟩:=build_ty rf r hok
 have hll:=len_data s
 obtain⟨hP,hpl⟩:=hv.prt (by rw[hll];exact hs) (fun _ _ _ _=>trivial)
 have old:∀(b i:Nat),b<w.heap.size->w'.cell? ⟨b,i,none⟩=w.cell? ⟨b,i,none⟩:=fun b i hb=>nb.bl.cell (by exact hb)
 have hsz:=nb.bl.size
 obtain⟨s1,s2⟩:=nb.hS
 obtain⟨f1,f2⟩:=nb.hF
 obtain⟨l1,l2⟩:=nb.hL
 have d1:=nb.dSF
 have d2:=nb.dSL
 have blk:Blk ⟨S,P,o,G,cap,LB,FB,MB,s,(buildD rf r).1,(buildD rf r).2,rf.length,26+L.length,room,levs ((buildD rf r).1.map Prod.snd),prtOf num L,w'.heap.size⟩:=by
  constructor<;>simp only<;>omega
 have hixr:∀h,Vh ⟨S,P,o,G,cap,LB,FB,MB,s,(buildD rf r).1,(buildD rf r).2,rf.length,26+L.length,room,levs ((buildD rf r).1.map Prod.snd),prtOf num L,w'.heap.size⟩ h->ix ⟨S,P,o,G,cap,LB,FB,MB,s,(buildD rf r).1,(buildD rf r).2,rf.length,26+L.length,room,levs ((buildD rf r).1.map Prod.snd),prtOf num L,w'.heap.size⟩ h<room:=fun h hv=>by
  obtain⟨v1,v2,_⟩:=hv
  simp only at v1 v2
  unfold ix
  simp only
  rw[hroom]
  split
  ·exact v1
  ·have:h.1*(26+L.length)+(26+L.length)<=(26+L.length)*(26+L.length):=by
    rw[<-Nat.succ_mul]
    exact Nat.mul_le_mul_right _ v1
   omega
 refine⟨⟨S,P,o,G,cap,LB,FB,MB,s,(buildD rf r).1,(buildD rf r).2,rf.length,26+L.length,room,levs ((buildD rf r).1.map Prod.snd),prtOf num L,w'.heap.size⟩,G',rfl,⟨rfl,rfl,rfl,?_,?_,?_,nb.bl,s1,m1,fun i j hi=>?_⟩⟩
 ·refine⟨nb.s0,nb.s1,⟨lc,nb.s2⟩,nb.nm,⟨_,nb.s628⟩,?_,nb.s630,(old _ _ lP).trans p0,(old _ _ lP).trans p1,(old _ _ lP).trans p2,(old _ _ lP).trans p3,fun q x hx=>?_,fun q f n d hq=>?_,fun j hj=>?_⟩
  ·rw[nb.s629,Int.natCast_add];rfl
  ·obtain⟨c,h1,h2⟩:=hst q x hx
   exact⟨c,h1,fun j v hj=>(old _ _ hG).trans (h2 j v hj)⟩
  ·have:=hF q _ hq
   rw[show fOf (Sk.one f n,d)=f from rfl]at this
   have h2:=nb.fb q (List.getElem?_eq_some_iff.1 hq).1
   rw[this]at h2
   exact h2
  ·obtain⟨z,h1,h2,h3,_⟩:=prt_cells hv hj
   simp only
   rw[h2,h3]
   exact nb.pl j z h1
 ·refine⟨Nat.le_refl _,fun h hh=>?_,fun i=>frozen_blk hM,fun h b r' hx=>(by cases hx),fun h h' b r' b' r'' hx=>(by cases hx),⟨.slice none 0 0,nb.s631,World.ownsRow_nil _ _ _ _,fun g hg=>by simp[Value.ownBlock]at hg⟩,fun h hh=>by simp[ssN]at hh,nb.s632,nb.s633,fun i _=>nb.fS i⟩
  rw[cell_of_row _ _ _ _ _ _ hM,mkQ_get (hixr h hh)]
  rfl
 ·refine⟨⟨blk,hs,rfl,levs_bd hdm hD,hD,fun q x hx=>hdm x (List.mem_of_getElem? hx),hk,rfl,by simp only;omega,hroom,fun j hj i hi=>?_,fun j hj=>?_,fun a b h1 _ h3=>hP.lt a b h1 (by rw[hll];exact h3)⟩,ty,fun j hj i hi=>by have:=hpl j hj i hi;rw[hll]at this;exact this,by simp only;omega,en⟩
  ·have:=hpl j hj i hi
   rw[hll]at this
   simp only
   omega
  ·obtain⟨z,_,h2,_,h4⟩:=prt_cells hv hj
   simp only
   rw[h2]
   omega
 ·exact mp_mg hrf rfl rfl hP (by show s.data.toList.length<=24;rw[hll];exact hs) (slots_ty ty (by omega)) i j (by rw[<-hll]at hi;exact hi)
end Go.Proofs.YtldiemjlpnachaaGreatDoor
namespace Go.Proofs.YtldiemjlpnachaaGreatDoor
open Go.RowKit
def Fm(l s:List UInt8)(i j:Nat):Prop:=if refT0 l= []then MtRow s ((itsT l).map (·.3)) i j else s.length<=24/\∃μ,MgRow s (refT0 l) ((itsT l).map (·.3)) (i,fun _=> .no) (j,μ)
theorem CodeIn.sdat{w0 w:World}{v:Value}{D:List Sd}(h:CodeIn w0 w v D)(hn:0<D.length):∃G cap,v= .slice (some ⟨G,0,none⟩) D.length cap/\w0.heap.size<=G/\G<w.heap.size/\∀(q:Nat) x,D[q]?=some x->SdAt w G q (fi D q) x:=by
 obtain⟨⟨css,hown,hcs⟩,_⟩:=h
 obtain⟨G,cap,rfl,hb,hl⟩:=hown.form (by omega)
 refine⟨G,cap,rfl,hb,hl,fun q x hq=>?_⟩
 have hql:q<D.length:=(List.getElem?_eq_some_iff.1 hq).1
 have hqc:q<css.length:=by rw[hcs.1];exact hql
 have hok:=hcs.2 q css[q] x (List.getElem?_eq_getElem hqc) hq
 refine⟨css[q],hok,fun j v hv=>owns_cell hown _ v ?_⟩
 have hj:j<14:=by have:=(List.getElem?_eq_some_iff.1 hv).1;rw[hok.len]at this;exact this
 rw[flat_get 14 css q j css[q] hcs.lens (List.getElem?_eq_getElem hqc) hj]
 exact hv
theorem findBack_out(P o:Nat)(w:World)(s:ByteArray)(fr:Int)(hf:(0<=fr/\fr<=s.size)->24<s.size):
  Calls Tryz.prog 70 #[.pointer (some ⟨P,o,none⟩),.string s,.int .i64 fr] w fun e w'=>e= .returned (.tuple #[.int .i64 0,.int .i64 0,.bool false])/\w'=w:=by
 by_cases h1:fr<0
 ·clear hf
  go_enter Tryz.func70,Tryz.ntmps70
  go_wp2
  go_ret3
  exact⟨rfl,rfl⟩
 ·by_cases h2:(s.size:Int)<fr
  ·clear hf
   go_enter Tryz.func70,Tryz.ntmps70
   go_wp2
   go_ret3
   exact⟨rfl,rfl⟩
  ·have h3:(24:Int)<(s.size:Int):=by have:=hf ⟨by omega,by omega⟩;omega
   clear hf
   go_enter Tryz.func70,Tryz.ntmps70
   go_wp2
   go_ret3
   exact⟨rfl,rfl⟩
theorem pfind_all(w0 w:World)(g:Nat)(l:List UInt8)(s:ByteArray)(fr:Int)(hok:(parseT l).1=0)(hP:ProgIn w0 w g l)(hs:s.size<=1000000000):
  Calls Tryz.prog 27 #[.pointer (some ⟨g,0,none⟩),.string s,.int .i64 fr] w fun e w'=>FindPost w w' s.data.toList (Fm l s.data.toList) fr e:=by
 by_cases hr:refT0 l= []
 ·have e:Fm l s.data.toList=fun i j=>MtRow s.data.toList ((itsT l).map (·.3)) i j:=by funext i j;unfold Fm;rw[if_pos hr]
  rw[e]
  exact pfind_any w0 w g l s fr hok hP hr hs
 ·obtain⟨v,c1,c2,c4,hcode⟩:=hP.code
  have hll:=len_data s
  obtain⟨_,hr2,_⟩:=refs_T hok
  have hpos:0<(refT0 l).length:=List.length_pos_iff.2 hr
  have c3:=hP.c3
  have hle:=hP.le
  have hD0:0<(buildD (refT0 l) ((itsT l).map (·.3))).1.length:=by
   obtain⟨_,_,⟨_,_,h,_⟩⟩:=build_ty _ _ (ok_T hok)
   have:=(List.getElem?_eq_some_iff.1 h).1
   omega
  obtain⟨G,cap,rfl,_,hG,hst⟩:=hcode.sdat hD0
  have hfb:Calls Tryz.prog 70 #[.pointer (some ⟨g,1,none⟩),.string s,.int .i64 fr] w fun e w'=>FindPost w w' s.data.toList (Fm l s.data.toList) fr e:=by
   by_cases hf:(0<=fr/\fr<=s.size)/\s.size<=24
   ·obtain⟨⟨hf0,hf1⟩,hf2⟩:=hf
    obtain⟨f,rfl⟩:=Int.eq_ofNat_of_zero_le hf0
    refine(findBack_any (M:=fun i j=>∃μ,MgRow s.data.toList (refT0 l) ((itsT l).map (·.3)) (i,fun _=> .no) (j,μ)) hf2 (by omega) (newBack_ok hf2 hr hr2 (ok_T hok) c1 c2 c3 c4 hst hG (by omega) hcode.2)).mono ?_
    rintro e w' ⟨hb,fd,a,b,rfl,hbest⟩
    refine⟨hb,fd,a,b,rfl,fun _=>?_,fun h=>?_⟩
    ·rw[Int.toNat_natCast,hll]
     exact best_iff hbest (fun i j _=>by unfold Fm;rw[if_neg hr,hll];exact⟨fun h=>⟨hf2,h⟩,fun h=>h.2⟩)
    ·exact absurd ⟨hf0,by rw[hll];exact hf1⟩ h
   ·refine(findBack_out g 1 w s fr (fun h=>by omega)).mono ?_
    rintro e w' ⟨rfl,rfl⟩
    refine⟨Below.refl _ _,false,0,0,rfl,fun h=>?_,fun _=>⟨rfl,rfl,rfl⟩⟩
    refine⟨fun h=>(by cases h),fun _=>⟨rfl,rfl,fun i j _ _ hm=>?_⟩⟩
    unfold Fm at hm
    rw[if_neg hr,hll]at hm
    rw[hll]at h
    exact hf ⟨h,hm.1⟩
  have Hfb:=hd hfb
  have hcm:(0:Int)<((refT0 l).length:Int):=by omega
  have Hfind:Hid (Calls Tryz.prog 47 #[.pointer (some ⟨g,1,none⟩),.string s,.int .i64 fr] w fun e w'=>FindPost w w' s.data.toList (Fm l s.data.toList) fr e):=by
   refine hd ?_
   clear hfb hst hcode c1 c2 c4
   generalize (refT0 l).length=kk at*
   go_enter Tryz.func47,Tryz.ntmps47
   go_wp2_with fail
   refine Hfb.out.mono ?_
   rintro e w' ⟨hb,fd,a,b,rfl,h1,h2⟩
   have HF:Hid (FindPost w w' s.data.toList (Fm l s.data.toList) fr (.returned (.tuple #[.int .i64 a,.int .i64 b,.bool fd]))):=hd ⟨hb,fd,a,b,rfl,h1,h2⟩
   clear hb h1 h2
   go_wp2
   go_ret3
   exact HF.out
  clear hfb hst hcode c1 c2 c3 c4 hP Hfb hcm
  go_enter Tryz.func27,Tryz.ntmps27
  go_wp2_with fail
  refine Hfind.out.mono ?_
  rintro e w' ⟨hb,fd,a,b,rfl,h1,h2⟩
  have HF:Hid (FindPost w w' s.data.toList (Fm l s.data.toList) fr (.returned (.tuple #[.int .i64 a,.int .i64 b,.bool fd]))):=hd ⟨hb,fd,a,b,rfl,h1,h2⟩
  clear hb h1 h2
  go_wp2
  go_ret3
  exact HF.out
end Go.Proofs.YtldiemjlpnachaaGreatDoor

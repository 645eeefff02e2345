import Derived.Test.YtldiemjlpnachaaGreatDoorOwn
import Derived.Laws.Tables
import Derived.Great.BuildSlice
import Derived.ChangeKeysEq
import Derived.KernelRfl
import Derived.Test.YtldiemjlpnachaaGreatDoorBks
import Derived.BigQuiet
import Derived.Deep.CutRange
set_option maxHeartbeats 6400000
set_option maxRecDepth 100000
namespace Go.Proofs.YtldiemjlpnachaaGreatDoor
open Go.RowKit
abbrev Ds:=Nat×List (Int×Int)
def spC(a b:Nat->Int):Array Value:= #[.int .i64 (a 0),.int .i64 (b 0),.int .i64 (a 1),.int .i64 (b 1),.int .i64 (a 2),.int .i64 (b 2),.int .i64 (a 3),.int .i64 (b 3),.int .i64 (a 4),.int .i64 (b 4),.int .i64 (a 5),.int .i64 (b 5),.int .i64 (a 6),.int .i64 (b 6),.int .i64 (a 7),.int .i64 (b 7),.int .i64 (a 8),.int .i64 (b 8),.int .i64 (a 9),.int .i64 (b 9)]
def stC(p:Int)(a b:Nat->Int):Array Value:= #[.int .i64 p,.int .i64 (a 0),.int .i64 (b 0),.int .i64 (a 1),.int .i64 (b 1),.int .i64 (a 2),.int .i64 (b 2),.int .i64 (a 3),.int .i64 (b 3),.int .i64 (a 4),.int .i64 (b 4),.int .i64 (a 5),.int .i64 (b 5),.int .i64 (a 6),.int .i64 (b 6),.int .i64 (a 7),.int .i64 (b 7),.int .i64 (a 8),.int .i64 (b 8),.int .i64 (a 9),.int .i64 (b 9)]
theorem eqf_two{P:Program}{d:Nat}{xs ys:Array Value}{f g:Field}{u v x y:Value}{w:World}{r s:Bool}(hf:f.name≠ "_")(hg:g.name≠ "_")(h1:(part f.type xs f.offset).run P w= .ok u w)(h2:(part f.type ys f.offset).run P w= .ok v w)(h3:(Op.equalIn d f.type u v).run P w= .ok r w)
  (h4:(part g.type xs g.offset).run P w= .ok x w)(h5:(part g.type ys g.offset).run P w= .ok y w)(h6:(Op.equalIn d g.type x y).run P w= .ok s w):(Op.eqFields d xs ys [f,g]).run P w= .ok (r&&s) w:=by
 simp only[Op.eqFields,hf,hg,ne_eq,not_false_eq_true,if_true,Sem.run_bind,h1,h2,h3,Result.andThen_ok,Sem.run_ite]
 cases r
 ·simp
 ·simp only[Bool.not_true,Bool.false_eq_true,if_false,h4,h5,h6,Result.andThen_ok]
  cases s<;>simp
theorem flds_span:∃f g,(Tryz.prog.fieldsOf 74).toList= [f,g]/\f.name≠ "_" /\g.name≠ "_" /\f.type=3/\g.type=3/\f.offset=0/\g.offset=1:=⟨(Tryz.prog.fieldsOf 74)[0]!,(Tryz.prog.fieldsOf 74)[1]!,by kernel_rfl,by decide+kernel,by decide+kernel,by kernel_rfl,by kernel_rfl,by kernel_rfl,by kernel_rfl⟩
theorem flds_state:∃f g,(Tryz.prog.fieldsOf 77).toList= [f,g]/\f.name≠ "_" /\g.name≠ "_" /\f.type=3/\g.type=75/\f.offset=0/\g.offset=1:=⟨(Tryz.prog.fieldsOf 77)[0]!,(Tryz.prog.fieldsOf 77)[1]!,by kernel_rfl,by decide+kernel,by decide+kernel,by kernel_rfl,by kernel_rfl,by kernel_rfl,by kernel_rfl⟩
theorem und_int:Tryz.prog.underlying 3=some (.int .i64):=by kernel_rfl
theorem eq_span(d:Nat)(a b c e:Int)(w:World):(Op.equalIn (d+2) 74 (.agg #[.int .i64 a,.int .i64 b]) (.agg #[.int .i64 c,.int .i64 e])).run Tryz.prog w= .ok (a==c&&b==e) w:=by
 rw[run_equalIn_struct w (d+1) 74 _ _ (by kernel_rfl) (by kernel_rfl)]
 obtain⟨f,g,hl,h1,h2,h3,h4,h5,h6⟩:=flds_span
 rw[hl]
 refine eqf_two h1 h2 (u:= .int .i64 a) (v:= .int .i64 c) (x:= .int .i64 b) (y:= .int .i64 e) ?_ ?_ ?_ ?_ ?_ ?_
 ·rw[h3,h5];kernel_rfl
 ·rw[h3,h5];kernel_rfl
 ·rw[h3];exact run_equalIn_int w d _ _ _ _ _ und_int
 ·rw[h4,h6];kernel_rfl
 ·rw[h4,h6];kernel_rfl
 ·rw[h4];exact run_equalIn_int w d _ _ _ _ _ und_int
theorem part_sp(a b:Nat->Int)(i:Nat)(hi:i<10)(w:World):(part 74 (spC a b) (i*2)).run Tryz.prog w= .ok (.agg #[.int .i64 (a i),.int .i64 (b i)]) w:=by
 rcases(show i=0\/i=1\/i=2\/i=3\/i=4\/i=5\/i=6\/i=7\/i=8\/i=9 by omega)with rfl|rfl|rfl|rfl|rfl|rfl|rfl|rfl|rfl|rfl<;>kernel_rfl
theorem eqi_all{w:World}(d:Nat)(a b c e:Nat->Int):∀is:List Nat,(∀i∈is,i<10)->(Op.eqItems (d+2) 74 2 (spC a b) (spC c e) is).run Tryz.prog w= .ok (is.all fun i=>(a i==c i&&b i==e i)) w
 | [],_=>by simp[Op.eqItems]
 |i::is,h=>by
  have hi:=h i (by simp)
  simp only[Op.eqItems,Sem.run_bind,part_sp a b i hi,part_sp c e i hi,eq_span d,Result.andThen_ok,Sem.run_ite]
  have ih:=eqi_all (w:=w) d a b c e is (fun j hj=>h j (by simp[hj]))
  cases hr:(a i==c i&&b i==e i)
  ·simp[hr]
  ·simp[hr,ih]
theorem eq_st(p q:Int)(a b c e:Nat->Int)(w:World):(Op.equalIn 10000 77 (.agg (stC p a b)) (.agg (stC q c e))).run Tryz.prog w= .ok (p==q&&(List.range 10).all fun i=>(a i==c i&&b i==e i)) w:=by
 rw[show(10000:Nat)=9999+1 from rfl,run_equalIn_struct w 9999 77 _ _ (by kernel_rfl) (by kernel_rfl)]
 obtain⟨f,g,hl,h1,h2,h3,h4,h5,h6⟩:=flds_state
 rw[hl]
 refine eqf_two h1 h2 (u:= .int .i64 p) (v:= .int .i64 q) (x:= .agg (spC a b)) (y:= .agg (spC c e)) ?_ ?_ ?_ ?_ ?_ ?_
 ·rw[h3,h5];kernel_rfl
 ·rw[h3,h5];kernel_rfl
 ·rw[h3];exact run_equalIn_int w 9998 _ _ _ _ _ und_int
 ·rw[h4,h6];kernel_rfl
 ·rw[h4,h6];kernel_rfl
 ·rw[h4]
  obtain⟨i,hi⟩:=Option.isSome_iff_exists.1 (show(Tryz.prog.info? 74).isSome=true by kernel_rfl)
  have:=run_equalIn_array w 9998 (t:=75) (e:=74) (n:=10) (spC a b) (spC c e) (by kernel_rfl) hi
  rw[show(9999:Nat)=9998+1 from rfl,this,show Tryz.prog.cellsOf 74=2 by kernel_rfl,show(9998:Nat)=9996+2 from rfl]
  exact eqi_all 9996 a b c e _ (fun i hi=>List.mem_range.1 hi)
def stV(d:Ds):Array Value:=stC d.1 (fun k=>(d.2.getD k (0,0)).1) (fun k=>(d.2.getD k (0,0)).2)
def stL(d:Ds):List Value:=(stV d).toList
theorem stL_len(d:Ds):(stL d).length=21:=rfl
theorem stV_one(d:Ds):(stV d).all (·.oneCell')=true:=by kernel_rfl
theorem eq_stV{d e:Ds}(hd:d.2.length=10)(he:e.2.length=10)(w:World):(Op.equalIn 10000 77 (.agg (stV d)) (.agg (stV e))).run Tryz.prog w= .ok (decide (d=e)) w:=by
 unfold stV
 rw[eq_st]
 congr 1
 rw[Bool.eq_iff_iff]
 simp only[Bool.and_eq_true,beq_iff_eq,List.all_eq_true,List.mem_range,decide_eq_true_eq]
 constructor
 ·rintro⟨h1,h2⟩
  refine Prod.ext (by omega) (List.ext_getElem? fun k=>?_)
  rcases Nat.lt_or_ge k 10 with h|h
  ·have:=h2 k h
   rw[List.getD_eq_getElem?_getD,List.getD_eq_getElem?_getD,List.getElem?_eq_getElem (by omega),List.getElem?_eq_getElem (by omega)]at this
   rw[List.getElem?_eq_getElem (by omega),List.getElem?_eq_getElem (by omega)]
   exact congrArg some (Prod.ext this.1 this.2)
  ·rw[List.getElem?_eq_none (by omega),List.getElem?_eq_none (by omega)]
 ·rintro rfl
  exact⟨rfl,fun k _=>⟨rfl,rfl⟩⟩
theorem run_ixs(a b:Nat->Int)(k:Nat)(hk:k<10)(w:World):(Instr.index 75 (.agg (spC a b)) (.int .i64 k)).run Tryz.prog w= .ok (.agg #[.int .i64 (a k),.int .i64 (b k)]) w:=by
 rcases(show k=0\/k=1\/k=2\/k=3\/k=4\/k=5\/k=6\/k=7\/k=8\/k=9 by omega)with rfl|rfl|rfl|rfl|rfl|rfl|rfl|rfl|rfl|rfl<;>kernel_rfl
theorem run_stx(C:Array Value)(w:World):(Instr.box 77 (.agg C)).run Tryz.prog w= .ok (.pointer (some ⟨w.heap.size,0,none⟩)) (w.alloc (.cells C 77)):=by kernel_rfl
theorem und_state:∃fs,Tryz.prog.underlying 77=some (.struct fs):=⟨_,Tryz.underlying77⟩
theorem info_state:(Tryz.prog.info? 77).map (·.size)=some 21:=by kernel_rfl
theorem run_one(d:Ds)(w:World):(Instr.buildSlice 72 1 #[(0,.agg (stV d))]).run Tryz.prog w= .ok (.slice (some ⟨w.heap.size,0,none⟩) 1 1) (w.alloc (.cells (stV d) 77)):=by kernel_rfl
end Go.Proofs.YtldiemjlpnachaaGreatDoor
namespace Go.Proofs.YtldiemjlpnachaaGreatDoor
open Go.RowKit
def hst(n:Int)(g:Int×Int):Int:=(n*31+g.1*7+g.2+9)%997
def hshI(d:Ds):Nat->Int
 |0=>d.1
 |k+1=>hst (hshI d k) (d.2.getD k (0,0))
def hsh(d:Ds):Nat:=(hshI d 10).toNat
structure OkH(d:Ds):Prop where
 len:d.2.length=10
 pl:d.1<=1000000000
 lo:∀k,k<10-> -1<=(d.2.getD k (0,0)).1/\ -1<=(d.2.getD k (0,0)).2
 hi:∀k,k<10->(d.2.getD k (0,0)).1<=1000000000/\(d.2.getD k (0,0)).2<=1000000000
theorem hst_bd{n:Int}{g:Int×Int}(_hn:0<=n)(_h1: -1<=g.1)(_h2: -1<=g.2):0<=hst n g/\hst n g<997:=by
 unfold hst
 omega
theorem hshI_bd{d:Ds}(h:OkH d):∀k,k<=10->0<=hshI d k/\hshI d k<=1000000000
 |0,_=>by have:=h.pl;simp only[hshI];omega
 |k+1,hk=>by
  have ih:=hshI_bd h k (by omega)
  have:=hst_bd ih.1 (h.lo k (by omega)).1 (h.lo k (by omega)).2
  simp only[hshI]
  omega
theorem toNat_lt'{z:Int}(h0:0<=z)(h1:z<997):(z.toNat:Int)=z/\z.toNat<997:=by omega
theorem hsh_lt{d:Ds}(h:OkH d):(hsh d:Int)=hshI d 10/\hsh d<997:=by
 have ih:=hshI_bd h 9 (by omega)
 have:=hst_bd ih.1 (h.lo 9 (by omega)).1 (h.lo 9 (by omega)).2
 exact toNat_lt' (z:=hshI d (9+1)) this.1 this.2
def idx(L:List Ds)(n:Nat):List Nat:=(List.range L.length).filter fun i=>hsh (L.getD i (0,[]))==n
theorem idx_snoc(L:List Ds)(x:Ds)(n:Nat):idx (L++ [x]) n=idx L n++(if hsh x=n then [L.length]else []):=by
 unfold idx
 rw[List.length_append,List.length_singleton,List.range_succ,List.filter_append]
 have e1:(List.range L.length).filter (fun i=>hsh ((L++ [x]).getD i (0,[]))==n)=(List.range L.length).filter (fun i=>hsh (L.getD i (0,[]))==n):=List.filter_congr fun i hi=>by
  have hi:=List.mem_range.1 hi
  rw[List.getD_eq_getElem?_getD,List.getD_eq_getElem?_getD,List.getElem?_append_left hi]
 rw[e1]
 have e:(L++ [x]).getD L.length (0,[])=x:=by
  rw[List.getD_eq_getElem?_getD,List.getElem?_append_right (Nat.le_refl _)];simp
 by_cases h:hsh x=n
 ·rw[if_pos h,List.filter_cons_of_pos (by simp only[e,beq_iff_eq];exact h),List.filter_nil]
 ·rw[if_neg h,List.filter_cons_of_neg (by simp only[e,beq_iff_eq];exact h),List.filter_nil]
theorem idx_len(L:List Ds)(n:Nat):(idx L n).length<=L.length:=by
 have:=List.length_filter_le (fun i=>hsh (L.getD i (0,[]))==n) (List.range L.length)
 rw[List.length_range]at this
 exact this
theorem idx_lt{L:List Ds}{n i:Nat}(h:i∈idx L n):i<L.length:=List.mem_range.1 (List.mem_filter.1 h).1
theorem mem_idx{L:List Ds}{x:Ds}(h:x∈L):∃i∈idx L (hsh x),L.getD i (0,[])=x:=by
 obtain⟨i,hi,e⟩:=List.getElem_of_mem h
 have e2:L.getD i (0,[])=x:=by rw[List.getD_eq_getElem?_getD,List.getElem?_eq_getElem hi];exact e
 exact⟨i,List.mem_filter.2 ⟨List.mem_range.2 hi,by rw[e2];simp⟩,e2⟩
def addD(L:List Ds)(x:Ds):List Ds:=if x∈L then L else L++ [x]
theorem mem_addD{L:List Ds}{x v:Ds}:v∈addD L x↔v∈L\/v=x:=by
 unfold addD
 split
 ·rename_i h
  exact⟨.inl,fun k=>k.elim id (fun e=>e▸h)⟩
 ·simp
theorem nodup_addD{L:List Ds}{x:Ds}(h:L.Nodup):(addD L x).Nodup:=by
 unfold addD
 split
 ·exact h
 ·rename_i hx
  rw[List.nodup_append]
  exact⟨h,by simp,fun a ha b hb=>by rw[List.mem_singleton.1 hb];exact fun e=>hx (e▸ha)⟩
def sts(L:List Ds):List Value:=L.flatMap stL
theorem sts_snoc(L:List Ds)(x:Ds):sts (L++ [x])=sts L++stL x:=by unfold sts;simp
theorem sts_at:∀(L:List Ds) (i j:Nat) (hi:i<L.length),j<21->(sts L)[i*21+j]?=(stL L[i])[j]?
 |x::r,0,j,_,hj=>by
  unfold sts
  rw[List.flatMap_cons,List.getElem?_append_left (by rw[stL_len];omega)]
  simp
 |x::r,i+1,j,hi,hj=>by
  unfold sts
  rw[List.flatMap_cons,List.getElem?_append_right (by rw[stL_len];omega),stL_len,show(i+1)*21+j-21=i*21+j by omega]
  exact sts_at r i j (by simpa using hi) hj
structure Sts2(w:World)(base T:Nat)(tg:Nat->Option Nat)(L M:List Ds):Prop where
 cl:∃v,w.cell? ⟨T,0,none⟩=some v/\w.ownsRow base 77 21 v L.length (sts L)/\∀k,v.ownBlock=some k->tg k=some 0
 cb:∀n,n<997->∃v,w.cell? ⟨T,1+n,none⟩=some v/\w.ownsRow base 3 1 v (idx M n).length ((idx M n).map fun i:Nat=>Value.int .i64 i)/\∀k,v.ownBlock=some k->tg k=some (n+1)
 fz:∀i,w.frozen? ⟨T,i,none⟩=false
 tT:tg T=some 998
 tl:∀k,tg k≠none->base<=k/\k<w.heap.size
abbrev Sts(w:World)(base T:Nat)(tg:Nat->Option Nat)(L:List Ds):Prop:=Sts2 w base T tg L L
structure Gro(w w':World)(tg tg':Nat->Option Nat):Prop where
 os:w'.os=w.os
 tape:w'.tape=w.tape
 output:w'.output=w.output
 size:w.heap.size<=w'.heap.size
 block:∀k,k<w.heap.size->tg k=none->w'.heap[k]?=w.heap[k]?
 tag:∀k,tg' k≠none->tg k≠none\/w.heap.size<=k
theorem Sts2.same{w w':World}{base T:Nat}{tg:Nat->Option Nat}{L M:List Ds}(h:Sts2 w base T tg L M)(hs:w.heap.size<=w'.heap.size)(hb:∀k,tg k≠none->w'.heap[k]?=w.heap[k]?):Sts2 w' base T tg L M:=by
 have eT:w'.heap[T]?=w.heap[T]?:=hb T (by rw[h.tT];simp)
 refine⟨?_,fun n hn=>?_,fun i=>(World.frozen?_of_block eT).trans (h.fz i),h.tT,fun k hk=>⟨(h.tl k hk).1,Nat.lt_of_lt_of_le (h.tl k hk).2 hs⟩⟩
 ·obtain⟨v,h1,h2,h3⟩:=h.cl
  exact⟨v,(World.cell?_of_block eT).trans h1,owns_same h2 (fun k hk=>hb k (by rw[h3 k hk];simp)),h3⟩
 ·obtain⟨v,h1,h2,h3⟩:=h.cb n hn
  exact⟨v,(World.cell?_of_block eT).trans h1,owns_same h2 (fun k hk=>hb k (by rw[h3 k hk];simp)),h3⟩
theorem Sts2.below{w w':World}{base T:Nat}{tg:Nat->Option Nat}{L M:List Ds}(h:Sts2 w base T tg L M)(hb:Below w.heap.size w w'):Sts2 w' base T tg L M:=
 h.same hb.size (fun k hk=>hb.block k (h.tl k hk).2)
theorem Gro.refl(w:World)(tg:Nat->Option Nat):Gro w w tg tg:=⟨rfl,rfl,rfl,Nat.le_refl _,fun _ _ _=>rfl,fun _ h=> .inl h⟩
theorem Gro.of_below{w w':World}{tg:Nat->Option Nat}(h:Below w.heap.size w w'):Gro w w' tg tg:=⟨h.os,h.tape,h.output,h.size,fun k hk _=>h.block k hk,fun _ h=> .inl h⟩
theorem Gro.trans {w w' w'' : World} {tg tg' tg'' : Nat → Option Nat} (h : Gro w w' tg tg') (k : Gro w' w'' tg' tg'') : Gro w w'' tg tg'' :=
  ⟨k.os.trans h.os, k.tape.trans h.tape, k.output.trans h.output, Nat.le_trans h.size k.size, fun i hi ht => (k.block i (Nat.lt_of_lt_of_le hi h.size) (by
     cases e : tg' i with
     | none => rfl
     | some x => rcases h.tag i (by rw [e]; simp) with h1 | h1
                 · exact absurd ht h1
                 · omega)).trans (h.block i hi ht),
   fun i hi => by rcases k.tag i hi with h1 | h1
                  · exact h.tag i h1
                  · exact .inr (Nat.le_trans h.size h1)⟩
theorem cell_T{w:World}{base T:Nat}{tg:Nat->Option Nat}{L M:List Ds}(h:Sts2 w base T tg L M):T<w.heap.size:=(h.tl T (by rw[h.tT];simp)).2
def tgS(tg:Nat->Option Nat)(g v:Nat):Nat->Option Nat:=fun k=>if k=g then some v else tg k
theorem tgS_same(tg:Nat->Option Nat)(g v:Nat):tgS tg g v g=some v:=by simp[tgS]
theorem tgS_ne(tg:Nat->Option Nat){g k:Nat}(v:Nat)(h:k≠g):tgS tg g v k=tg k:=by simp[tgS,h]
theorem Sts2.bucket{w w1:World}{base T n g cap:Nat}{tg:Nat->Option Nat}{L:List Ds}{v:Value}{o:Obj}{x:Ds}(h:Sts2 w base T tg L L)(hn:n<997)(hx:hsh x=n)(hc:w.cell? ⟨T,1+n,none⟩=some v)(hv:∀k,v.ownBlock=some k->tg k=some (n+1))
  (hown:w1.ownsRow base 3 1 (.slice (some ⟨g,0,none⟩) ((idx L n).length+1) cap) ((idx L n).length+1) (((idx L n).map fun i:Nat=>Value.int .i64 i)++ [.int .i64 L.length]))
  (hgr:(w.alloc o).grownBy w1 v.ownBlock)(hat:v.ownBlock=some g\/g=w.heap.size+1)(hlt:g<w1.heap.size)(hb:base<=w.heap.size):
  ∃tg',Sts2 (w1.setCell ⟨T,1+n,none⟩ (.slice (some ⟨g,0,none⟩) ((idx L n).length+1) cap)) base T tg' L (L++ [x])/\Gro w (w1.setCell ⟨T,1+n,none⟩ (.slice (some ⟨g,0,none⟩) ((idx L n).length+1) cap)) tg tg':=by
 have lT:=cell_T h
 have sz:=hgr.size
 simp only[World.size_alloc]at sz
 have hvT:v.ownBlock≠some T:=fun e=>by have:=hv T e;rw[h.tT]at this;simp at this;omega
 have gT:g≠T:=by
  rcases hat with e|e
  ·intro e2;exact hvT (by rw[e,e2])
  ·omega
 have blk:∀k,k<w.heap.size->v.ownBlock≠some k->w1.heap[k]?=w.heap[k]?:=fun k hk hv2=>(hgr.block k (by simp;omega) (fun e=>hv2 e.symm)).trans (Below.heap_alloc _ _ _ hk)
 have eT:w1.heap[T]?=w.heap[T]?:=blk T lT hvT
 refine⟨tgS tg g (n+1),⟨?_,fun m hm=>?_,fun i=>?_,?_,fun k hk=>?_⟩,?_⟩
 ·obtain⟨u,h1,h2,h3⟩:=h.cl
  have hug:∀k,u.ownBlock=some k->k≠g/\v.ownBlock≠some k:=fun k hk=>by
   have e1:=h3 k hk
   have hvk:v.ownBlock≠some k:=fun e=>by have:=hv k e;rw[e1]at this;simp at this
   refine⟨fun e=>?_,hvk⟩
   rcases hat with e2|e2
   ·exact hvk (by rw[e2,e])
   ·have:=(h.tl k (by rw[e1];simp)).2;omega
  refine⟨u,(World.cell?_setCell_other _ _ _ _ (by intro e;injection e;omega)).trans ((World.cell?_of_block eT).trans h1),?_,fun k hk=>by rw[tgS_ne _ _ (hug k hk).1];exact h3 k hk⟩
  refine owns_same h2 (fun k hk=>?_)
  have hkT:k≠T:=fun e=>by have:=h3 k hk;rw[e,h.tT]at this;simp at this
  rw[Below.heap_setCell _ _ _ _ hkT]
  exact blk k (h.tl k (by rw[h3 k hk];simp)).2 (hug k hk).2
 ·rw[idx_snoc,hx]
  by_cases e:n=m
  ·subst e
   rw[if_pos rfl]
   refine⟨_,World.cell?_setCell_same _ _ _ ((World.cell?_of_block eT).trans hc),?_,fun k hk=>?_⟩
   ·rw[List.length_append,List.length_singleton,List.map_append,List.map_singleton]
    refine owns_same hown (fun k hk=>Below.heap_setCell _ _ _ _ ?_)
    simp only[Value.ownBlock,Option.some.injEq]at hk
    rw[<-hk];exact gT
   ·simp only[Value.ownBlock,Option.some.injEq]at hk
    rw[<-hk,tgS_same]
  ·rw[if_neg e,List.append_nil]
   obtain⟨u,h1,h2,h3⟩:=h.cb m hm
   have hug:∀k,u.ownBlock=some k->k≠g/\v.ownBlock≠some k:=fun k hk=>by
    have e1:=h3 k hk
    have hvk:v.ownBlock≠some k:=fun e=>by have:=hv k e;rw[e1]at this;simp at this;omega
    refine⟨fun e=>?_,hvk⟩
    rcases hat with e2|e2
    ·exact hvk (by rw[e2,e])
    ·have:=(h.tl k (by rw[e1];simp)).2;omega
   refine⟨u,(World.cell?_setCell_other _ _ _ _ (by intro e2;injection e2;omega)).trans ((World.cell?_of_block eT).trans h1),?_,fun k hk=>by rw[tgS_ne _ _ (hug k hk).1];exact h3 k hk⟩
   refine owns_same h2 (fun k hk=>?_)
   have hkT:k≠T:=fun e=>by have:=h3 k hk;rw[e,h.tT]at this;simp at this;omega
   rw[Below.heap_setCell _ _ _ _ hkT]
   exact blk k (h.tl k (by rw[h3 k hk];simp)).2 (hug k hk).2
 ·rw[World.frozen?_setCell];exact(World.frozen?_of_block eT).trans (h.fz i)
 ·rw[tgS_ne _ _ (fun e=>gT e.symm)];exact h.tT
 ·have hs2:(w1.setCell ⟨T,1+n,none⟩ (.slice (some ⟨g,0,none⟩) ((idx L n).length+1) cap)).heap.size=w1.heap.size:=by simp[World.setCell]
  rw[hs2]
  by_cases e:k=g
  ·subst e
   refine⟨?_,hlt⟩
   rcases hat with e2|e2
   ·exact(h.tl k (by rw[hv k e2];simp)).1
   ·omega
  ·rw[tgS_ne _ _ e]at hk
   have:=h.tl k hk
   omega
 ·refine⟨hgr.os,hgr.tape,hgr.output,by simp[World.setCell];omega,fun k hk ht=>?_,fun k hk=>?_⟩
  ·have hkT:k≠T:=fun e=>by rw[e,h.tT]at ht;cases ht
   rw[Below.heap_setCell _ _ _ _ hkT]
   exact blk k hk (fun e=>by rw[hv k e]at ht;cases ht)
  ·by_cases e:k=g
   ·subst e
    rcases hat with e2|e2
    ·exact .inl (by rw[hv k e2];simp)
    ·exact .inr (by omega)
   ·rw[tgS_ne _ _ e]at hk;exact .inl hk
theorem Sts2.full{w w1:World}{base T g cap:Nat}{tg:Nat->Option Nat}{L M:List Ds}{v:Value}{o:Obj}{x:Ds}(h:Sts2 w base T tg L M)(hc:w.cell? ⟨T,0,none⟩=some v)(hv:∀k,v.ownBlock=some k->tg k=some 0)
  (hown:w1.ownsRow base 77 21 (.slice (some ⟨g,0,none⟩) (L.length+1) cap) (L.length+1) (sts L++stL x))
  (hgr:(w.alloc o).grownBy w1 v.ownBlock)(hat:v.ownBlock=some g\/g=w.heap.size+1)(hlt:g<w1.heap.size)(hb:base<=w.heap.size):
  ∃tg',Sts2 (w1.setCell ⟨T,0,none⟩ (.slice (some ⟨g,0,none⟩) (L.length+1) cap)) base T tg' (L++ [x]) M/\Gro w (w1.setCell ⟨T,0,none⟩ (.slice (some ⟨g,0,none⟩) (L.length+1) cap)) tg tg':=by
 have lT:=cell_T h
 have sz:=hgr.size
 simp only[World.size_alloc]at sz
 have hvT:v.ownBlock≠some T:=fun e=>by have:=hv T e;rw[h.tT]at this;simp at this
 have gT:g≠T:=by
  rcases hat with e|e
  ·intro e2;exact hvT (by rw[e,e2])
  ·omega
 have blk:∀k,k<w.heap.size->v.ownBlock≠some k->w1.heap[k]?=w.heap[k]?:=fun k hk hv2=>(hgr.block k (by simp;omega) (fun e=>hv2 e.symm)).trans (Below.heap_alloc _ _ _ hk)
 have eT:w1.heap[T]?=w.heap[T]?:=blk T lT hvT
 refine⟨tgS tg g 0,⟨?_,fun m hm=>?_,fun i=>?_,?_,fun k hk=>?_⟩,?_⟩
 ·refine⟨_,World.cell?_setCell_same _ _ _ ((World.cell?_of_block eT).trans hc),?_,fun k hk=>?_⟩
  ·rw[List.length_append,List.length_singleton,sts_snoc]
   refine owns_same hown (fun k hk=>Below.heap_setCell _ _ _ _ ?_)
   simp only[Value.ownBlock,Option.some.injEq]at hk
   rw[<-hk];exact gT
  ·simp only[Value.ownBlock,Option.some.injEq]at hk
   rw[<-hk,tgS_same]
 ·obtain⟨u,h1,h2,h3⟩:=h.cb m hm
  have hug:∀k,u.ownBlock=some k->k≠g/\v.ownBlock≠some k:=fun k hk=>by
   have e1:=h3 k hk
   have hvk:v.ownBlock≠some k:=fun e=>by have:=hv k e;rw[e1]at this;simp at this
   refine⟨fun e=>?_,hvk⟩
   rcases hat with e2|e2
   ·exact hvk (by rw[e2,e])
   ·have:=(h.tl k (by rw[e1];simp)).2;omega
  refine⟨u,(World.cell?_setCell_other _ _ _ _ (by intro e2;injection e2;omega)).trans ((World.cell?_of_block eT).trans h1),?_,fun k hk=>by rw[tgS_ne _ _ (hug k hk).1];exact h3 k hk⟩
  refine owns_same h2 (fun k hk=>?_)
  have hkT:k≠T:=fun e=>by have:=h3 k hk;rw[e,h.tT]at this;simp at this;omega
  rw[Below.heap_setCell _ _ _ _ hkT]
  exact blk k (h.tl k (by rw[h3 k hk];simp)).2 (hug k hk).2
 ·rw[World.frozen?_setCell];exact(World.frozen?_of_block eT).trans (h.fz i)
 ·rw[tgS_ne _ _ (fun e=>gT e.symm)];exact h.tT
 ·have hs2:(w1.setCell ⟨T,0,none⟩ (.slice (some ⟨g,0,none⟩) (L.length+1) cap)).heap.size=w1.heap.size:=by simp[World.setCell]
  rw[hs2]
  by_cases e:k=g
  ·subst e
   refine⟨?_,hlt⟩
   rcases hat with e2|e2
   ·exact(h.tl k (by rw[hv k e2];simp)).1
   ·omega
  ·rw[tgS_ne _ _ e]at hk
   have:=h.tl k hk
   omega
 ·refine⟨hgr.os,hgr.tape,hgr.output,by simp[World.setCell];omega,fun k hk ht=>?_,fun k hk=>?_⟩
  ·have hkT:k≠T:=fun e=>by rw[e,h.tT]at ht;cases ht
   rw[Below.heap_setCell _ _ _ _ hkT]
   exact blk k hk (fun e=>by rw[hv k e]at ht;cases ht)
  ·by_cases e:k=g
   ·subst e
    rcases hat with e2|e2
    ·exact .inl (by rw[hv k e2];simp)
    ·exact .inr (by omega)
   ·rw[tgS_ne _ _ e]at hk;exact .inl hk
end Go.Proofs.YtldiemjlpnachaaGreatDoor
namespace Go.Proofs.YtldiemjlpnachaaGreatDoor
open Go.RowKit
section
variable {ops : Array Oper} {rest : List Oper} {o : Oper} {a : Act} {w : World} {Q : Exit → Act → World → Prop}
theorem wp_stx(x:Operand)(C:Array Value)(hg:o.guard=none)(ho:o.op= .box 77 x)(hx:a.eval x= .agg C)
  (h:wpList Tryz.prog ops Q rest (a.put o.dst (.pointer (some ⟨w.heap.size,0,none⟩))) (w.alloc (.cells C 77))):wpList Tryz.prog ops Q (o::rest) a w:=by
 refine wpList_plain hg fun K hK=>?_
 unfold Oper.wp execOp
 simp only[ho,Sem.run_bind]
 rw[hx,run_stx]
 exact hK _ _ h
end
section
variable {P : Program} {C : World → Prop} {a : Act} {o : Oper} {K : Act → Prop}
theorem quiet_load_mid(ty:TypeId)(x:Operand)(ho:o.op= .load ty x)(b off:Nat)(hx:a.eval x= .pointer (some ⟨b,off,none⟩))(cs:List Value)(d:TypeDesc)(hS:∀w,C w->w.rangeAt b off cs)
  (hu:P.underlying ty=some d)(hd:d.isRow=true)(hi:(P.info? ty).map (·.size)=some cs.length)(h:K (a.put o.dst (.agg cs.toArray))):o.quiet P a C K:=
 ⟨_,fun w hw=>by
  unfold Oper.quietAt execOp
  simp only[ho,hx,Instr.loadAt,Instr.sureAddr,Sem.run_bind,Sem.run_pure,Result.andThen_ok,run_loadVar_mid w b off ty cs d (hS w hw) hu hd hi]
  exact⟨rfl,rfl⟩,h⟩
theorem quiet_eql(t t':TypeId)(x y:Operand)(ho:o.op= .binOp .eql t x y t')(A B:Array Value)(hx:a.eval x= .agg A)(hy:a.eval y= .agg B)(v:Bool)(hm:P.eqGuardType P.depth t=false)
  (heq:∀w,(binOp .eql t (.agg A) (.agg B)).run P w= .ok (.bool v) w)(h:K (a.put o.dst (.bool v))):o.quiet P a C K:=
 ⟨_,fun w _=>by
  unfold Oper.quietAt execOp
  simp only[ho,hx,hy,Sem.run_bind,run_eqGuard_agg w _ t x y A B hm,heq,Sem.run_pure,Result.andThen_ok]
  exact⟨rfl,rfl⟩,h⟩
end
section
variable {P : Program} {ops : Array Oper} {o : Oper} {a : Act} {w : World} {K : Act → World → Prop} {Q : Exit → Act → World → Prop} {E : Prop}
theorem step_load_mid(hg:o.guard=none)(ty:TypeId)(x:Operand)(ho:o.op= .load ty x)(b off:Nat)(hx:a.eval x= .pointer (some ⟨b,off,none⟩))(cs:List Value)(d:TypeDesc)(hc:w.rangeAt b off cs)
  (hu:P.underlying ty=some d)(hd:d.isRow=true)(hi:(P.info? ty).map (·.size)=some cs.length)(hK:K (a.put o.dst (.agg cs.toArray)) w):if Region.wanted o (yielded ops a.tmps)=true then Oper.wp P o a w K Q else E:=by
 rw[if_pos (by simp[Region.wanted,hg])]
 exact wp_load_mid ty x ho b off hx cs d hc hu hd hi hK
end
theorem wpAny_takeL{P:Program}{md:Region.Mode}{l:List Oper}{Q:Exit->Act->World->Prop}{i:Nat}{oi:Oper}{v:Value}{fuel:Nat}{listed:Array Bool}{a:Act}{w:World}(hi:l[i]?=some oi)
  (hs:Region.noSelect l.toArray=true)(hf:Region.free md l.toArray listed i=true)(hr:(Region.ready md l.toArray listed).contains i=true)
  (hQ:∀c a w,Q (.panic c) (a.put oi.dst v) w->Q (.panic c) a w)(hy:Yields P l.toArray oi v a)
  (h:wpAny P md l.toArray Q fuel (listed.setIfInBounds i true) (a.put oi.dst v) w):wpAny P md l.toArray Q (fuel+1) listed a w:=
 wpAny_take (by rw[List.getElem?_toArray];exact hi) hs hf hr hQ hy h
theorem AllReady.consL{P:Program}{md:Region.Mode}{l:List Oper}{Q:Exit->Act->World->Prop}{fuel:Nat}{listed:Array Bool}{a:Act}{w:World}{i:Nat}{o:Oper}{rs:List Nat}(ho:l[i]?=some o)
  (h:∀K:Act->World->Prop,(∀a' w',wpAny P md l.toArray Q fuel (listed.setIfInBounds i true) a' w'->K a' w')->if Region.wanted o (yielded l.toArray a.tmps)=true then Oper.wp P o a w K Q else K (a.put o.dst undef) w)
  (hr:AllReady P md l.toArray Q fuel listed a w rs):AllReady P md l.toArray Q fuel listed a w (i::rs):=
 AllReady.cons (by rw[List.getElem?_toArray];exact ho) h hr
section
variable {ops : Array Oper} {o : Oper} {a : Act} {w : World} {K : Act → World → Prop} {Q : Exit → Act → World → Prop} {E : Prop}
theorem step_one(hg:o.guard=none)(x:Operand)(ho:o.op= .buildSlice 72 1 #[(0,x)])(d:Ds)(hx:a.eval x= .agg (stV d))(hK:K (a.put o.dst (.slice (some ⟨w.heap.size,0,none⟩) 1 1)) (w.alloc (.cells (stV d) 77))):
  if Region.wanted o (yielded ops a.tmps)=true then Oper.wp Tryz.prog o a w K Q else E:=by
 rw[if_pos (by simp[Region.wanted,hg])]
 unfold Oper.wp execOp
 simp only[ho,Sem.run_bind]
 rw[show(#[(0,x)].map fun(x:Nat×Operand)=>(x.1,a.eval x.2))= #[(0,a.eval x)]from by kernel_rfl,hx,run_one]
 exact hK
end
def ga(d:Ds)(k:Nat):Int:=(d.2.getD k (0,0)).1
def gb(d:Ds)(k:Nat):Int:=(d.2.getD k (0,0)).2
theorem und_sp:Tryz.prog.underlying 75=some (.array 10 74):=by kernel_rfl
theorem info_sp10:(Tryz.prog.info? 75).map (·.size)=some 20:=by kernel_rfl
theorem stV_0(d:Ds):(stV d)[0]?=some (.int .i64 d.1):=rfl
theorem range_sp(w:World)(d:Ds):(w.alloc (.cells (stV d) 77)).rangeAt w.heap.size 1 (spC (ga d) (gb d)).toList:=by
 have:=World.rangeAt_of_block (heap_alloc_new w (.cells (stV d) 77)) 1 20
 rw[show((stV d).extract 1 (1+20)).toList=(spC (ga d) (gb d)).toList by kernel_rfl]at this
 exact this
theorem stL_one(d:Ds):∀u∈stL d,u.oneCell'=true:=by
 have:=stV_one d
 rw[Array.all_eq_true_iff_forall_mem]at this
 intro u hu
 exact this u (by unfold stL at hu;simpa using hu)
theorem info_st:(Tryz.prog.info? 77).map (fun i=>(i.zero,i.size,i.bytes))=some (some (.agg #[.int .i64 0,.int .i64 0,.int .i64 0,.int .i64 0,.int .i64 0,.int .i64 0,.int .i64 0,.int .i64 0,.int .i64 0,.int .i64 0,.int .i64 0,.int .i64 0,.int .i64 0,.int .i64 0,.int .i64 0,.int .i64 0,.int .i64 0,.int .i64 0,.int .i64 0,.int .i64 0,.int .i64 0]),21,168):=by kernel_rfl
theorem uStates:Tryz.prog.underlying 72=some (.slice 77):=by kernel_rfl
theorem dadd_any{w:World}{base T:Nat}{tg:Nat->Option Nat}{L:List Ds}(h:Sts w base T tg L)(hL:∀d∈L,d.2.length=10)(x:Ds)(hx:OkH x)(hn:L.length<=2000000000)(hb:base<=w.heap.size):
    Calls Tryz.prog 36 #[.pointer (some ⟨T,0,none⟩),.agg (stV x)] w fun e w'=>e= .returned (.bool (decide (x ∉ L)))/\∃tg',Sts w' base T tg' (addD L x)/\Gro w w' tg tg':=by
  have Hh:=hd h
  have Hx:=hd hx
  have HL:=hd hL
  have HR:=hd (range_sp w x)
  have hc0:(w.alloc (.cells (stV x) 77)).cell? ⟨w.heap.size,0,none⟩=some (.int .i64 x.1):=by
    rw[cell_of_row _ _ 0 (stV x) _ _ (heap_alloc_new w _)];exact stV_0 x
  clear h hx hL
  go_enter Tryz.func36,Tryz.ntmps36
  go_wp2_with (first
    |refine wp_stx (.tmp 1) (stV x) rfl rfl rfl ?_
    |refine wpList_load_mid rfl 75 (.tmp 12) rfl w.heap.size 1 (by rfl) (spC (ga x) (gb x)).toList _ HR.out und_sp rfl info_sp10 ?_)
  have Hb0:Hid (Below w.heap.size w (w.alloc (.cells (stV x) 77))):=hd ((Below.refl _ _).alloc (Nat.le_refl _) _)
  have Hbx:Hid ((w.alloc (.cells (stV x) 77)).heap[w.heap.size]?=some (.cells (stV x) 77 (0,0))):=hd (heap_alloc_new w _)
  generalize hW:w.alloc (.cells (stV x) 77)=W at*
  have HsW:Hid (W.heap.size=w.heap.size+1):=hd (by rw[<-hW];simp)
  clear hW hc0 HR
  obtain⟨X,hX⟩:∃X,w.heap.size=X:=⟨_,rfl⟩
  have HX:=hd hX
  rw[hX]at Hb0 Hbx HsW hb
  simp only[hX]
  clear hX
  go_loopg [5,7,14] 11 (fun f nv _ kv wr=>∃(k:Nat) (n:Int),kv= .int .i64 k/\nv= .int .i64 n/\k<=10/\10<k+f/\0<=n/\n<=1000000000/\Hid (n=hshI x k)/\Hid (Below X w wr)/\Hid (wr.heap[X]?=some (.cells (stV x) 77 (0,0))))
  case atStart=>
    have:=Hx.out.pl
    exact⟨0,x.1,rfl,rfl,by omega,by omega,by omega,by omega,hd rfl,Hb0,Hbx⟩
  case round=>
    obtain⟨k,n,rfl,rfl,hk,hkf,hn0,hn1,HN,HB,HX0⟩:=hrel
    by_cases hlt:k<10
    · have hix:=run_ixs (ga x) (gb x) k hlt
      have h1: -1<=ga x k/\ -1<=gb x k:=Hx.out.lo k hlt
      have h2:ga x k<=1000000000/\gb x k<=1000000000:=Hx.out.hi k hlt
      have HN1:Hid ((n*31+ga x k*7+gb x k+9)%997=hshI x (k+1)):=hd (by rw[HN.out];rfl)
      have Hbd:=hd (hshI_bd Hx.out (k+1) (by omega))
      generalize ga x k=u at*
      generalize gb x k=v at*
      obtain⟨gf,rfl⟩:∃gf,gk=gf+1:=⟨gk-1,by omega⟩
      go_wp2
      go_roundg gf
      case measure=>omega
      case rel=>
        have hs:=HB.out.size
        have hX:=HX.out
        have hlt2:X<wr.heap.size:=by
          rcases Nat.lt_or_ge X wr.heap.size with h|h
          · exact h
          · have:=HX0.out;rw[Array.getElem?_eq_none h]at this;cases this
        exact⟨k+1,_,by go_num,rfl,by omega,by omega,by rw[HN1.out];exact Hbd.out.1,by rw[HN1.out];exact Hbd.out.2,HN1,hd (HB.out.alloc (by omega) _),hd ((Below.heap_alloc _ _ _ hlt2).trans HX0.out)⟩
    · obtain rfl:k=10:=by omega
      have Hsl:=hd (hsh_lt Hx.out)
      obtain⟨nn,hnn⟩:∃nn:Nat,nn=hsh x:=⟨_,rfl⟩
      have Hnn:=hd hnn
      have hne:n=(nn:Int):=by rw[HN.out,hnn];exact Hsl.out.1.symm
      have hnlt:nn<997:=by rw[hnn];exact Hsl.out.2
      subst hne
      clear hnn
      have lT:T<X:=by have:=cell_T Hh.out;rw[HX.out]at this;exact this
      obtain⟨vb,hvb,hob,htb⟩:=Hh.out.cb nn hnlt
      obtain⟨ba,bc,rfl⟩:=owns_shape hob
      obtain⟨vl,hvl,hol,htl⟩:=Hh.out.cl
      obtain⟨la,lc,rfl⟩:=owns_shape hol
      have hkl:=idx_len L nn
      have hn0':(0:Int)<=(nn:Int):=by omega
      have hn1':(nn:Int)<997:=by omega
      have HOb:Hid (∀wq,Below X w wq->wq.ownsRow base 3 1 (.slice ba (idx L nn).length bc) (idx L nn).length ((idx L nn).map fun i:Nat=>Value.int .i64 i)):=hd (fun wq hq=>owns_same hob (fun k hk=>hq.block k (by have:=(hob.lt k hk).2;rw[HX.out]at this;exact this)))
      have HOl:Hid (∀wq,Below X w wq->wq.ownsRow base 77 21 (.slice la L.length lc) L.length (sts L)):=hd (fun wq hq=>owns_same hol (fun k hk=>hq.block k (by have:=(hol.lt k hk).2;rw[HX.out]at this;exact this)))
      have HCb:Hid (∀wq,Below X w wq->wq.cell? ⟨T,1+nn,none⟩=some (.slice ba (idx L nn).length bc)):=hd (fun wq hq=>(hq.cell (by exact lT)).trans hvb)
      have HCl:Hid (∀wq,Below X w wq->wq.cell? ⟨T,0,none⟩=some (.slice la L.length lc)):=hd (fun wq hq=>(hq.cell (by exact lT)).trans hvl)
      have Htb:=hd htb
      have Htl:=hd htl
      have HK:Hid (∀i∈idx L nn,i<L.length):=hd (fun i hi=>idx_lt hi)
      have Hne:Hid ((∀i∈idx L nn,L.getD i (0,[])≠x)->x ∉ L):=hd (fun hno hxL=>by
        obtain⟨i,h1,h2⟩:=mem_idx hxL
        exact hno i (by rw[Hnn.out];exact h1) h2)
      clear hvb hob htb hvl hol htl
      have cb0:=HCb.out _ HB.out
      go_wp2
      clear cb0
      generalize hKs:idx L nn=K at*
      have HKs:=hd hKs
      clear hKs
      go_loopg [9,36] (K.length+1) (fun f _ jv wq=>∃j:Nat,jv= .int .i64 j/\j<=K.length/\K.length<j+f/\Hid (Below X w wq)/\Hid (wq.heap[X]?=some (.cells (stV x) 77 (0,0)))/\Hid (∀i,i∈K.take j->L.getD i (0,[])≠x))
      case atStart=>exact⟨0,rfl,by omega,by omega,HB,HX0,hd (fun i hi=>by simp at hi)⟩
      case round=>
        clear HB HX0
        obtain⟨j,rfl,hj,hjf,HB,HX0,Hno⟩:=hrel
        by_cases hjl:j<K.length
        · obtain⟨e,he⟩:∃e,e=K[j]:=⟨_,rfl⟩
          have heL:e<L.length:=by rw[he];exact HK.out _ (List.getElem_mem hjl)
          have hol:=HOl.out _ HB.out
          have hob:=HOb.out _ HB.out
          obtain⟨gl,rfl⟩:∃gl,la=some ⟨gl,0,none⟩:=by
            rcases hol.2 with⟨_,h0⟩|⟨k,cap,_,hv,_⟩
            · omega
            · simp only[Value.slice.injEq]at hv;exact⟨k,hv.1⟩
          obtain⟨gb',rfl⟩:∃gl,ba=some ⟨gl,0,none⟩:=by
            rcases hob.2 with⟨_,h0⟩|⟨k,cap,_,hv,_⟩
            · omega
            · simp only[Value.slice.injEq]at hv;exact⟨k,hv.1⟩
          have ce:wr.cell? ⟨gb',j,none⟩=some (.int .i64 e):=owns_cell hob j _ (by rw[List.getElem?_map,List.getElem?_eq_getElem hjl,he];rfl)
          have cl0:=HCl.out _ HB.out
          have r1:wr.rangeAt gl (e*21) (stL L[e]):=fun jj v hv=>by
            have hjj:jj<21:=by have:=(List.getElem?_eq_some_iff.1 hv).1;rw[stL_len]at this;exact this
            exact owns_cell hol (e*21+jj) v (by rw[sts_at L e jj heL hjj];exact hv)
          have r2:wr.rangeAt X 0 (stL x):=by
            have:=World.rangeAt_of_block HX0.out 0 21
            rw[show((stV x).extract 0 (0+21)).toList=stL x by kernel_rfl]at this
            exact this
          have heq:∀w:World,(binOp .eql 77 (.agg (stL L[e]).toArray) (.agg (stL x).toArray)).run Tryz.prog w= .ok (.bool (decide (L[e]=x))) w:=fun w=>by
            rw[run_eql_struct]
            show((Op.equalIn 10000 77 (.agg (stV L[e])) (.agg (stV x))).run Tryz.prog w).andThen _=_
            rw[eq_stV (HL.out _ (List.getElem_mem heL)) Hx.out.len]
            rfl
          have Hge:Hid (L.getD e (0,[])=L[e]):=hd (by rw[List.getD_eq_getElem?_getD,List.getElem?_eq_getElem heL];rfl)
          have hl1:(stL L[e]).length=21:=rfl
          have hl2:(stL x).length=21:=rfl
          have Hek:Hid (K.take (j+1)=K.take j++ [e]):=hd (by rw[he];exact take_snoc' K j hjl)
          have Hxe:Hid (decide (L[e]=x)=true->x∈L):=hd (fun h=>by rw[decide_eq_true_eq]at h;rw[<-h];exact List.getElem_mem heL)
          have Hxn:Hid (decide (L[e]=x)=false->L.getD e (0,[])≠x):=hd (fun h=>by rw[decide_eq_false_iff_not]at h;rw[Hge.out];exact h)
          clear hol hob he
          generalize decide (L[e]=x)=bq at*
          generalize stL L[e]=c1 at*
          generalize stL x=c2 at*
          have hu:=und_state.choose_spec
          have hi1:(Tryz.prog.info? 77).map (·.size)=some c1.length:=by rw[hl1];exact info_state
          have hi2:(Tryz.prog.info? 77).map (·.size)=some c2.length:=by rw[hl2];exact info_state
          have he0:(0:Int)<=(e:Int):=by omega
          have he1:(e:Int)<(L.length:Int):=by omega
          obtain⟨gf,rfl⟩:∃gf,gk=gf+1:=⟨gk-1,by omega⟩
          have hm:Tryz.prog.eqGuardType Tryz.prog.depth 77=false:=by kernel_rfl
          have Hq1:∀w',(∃n,w'=wr.drewN n)->w'.rangeAt gl (e*21) c1:=by rintro _ ⟨n,rfl⟩;exact r1
          have Hq2:∀w',(∃n,w'=wr.drewN n)->w'.rangeAt X 0 c2:=by rintro _ ⟨n,rfl⟩;exact r2
          have HQ1:=hd Hq1
          have HQ2:=hd Hq2
          have HEQ:=hd heq
          clear Hq1 Hq2 r1 r2 heq
          go_wp2
          refine wp_region_quiet_lit (by kernel_rfl) (by kernel_rfl) ?_
          repeat(first
            |(go_big_quiet_want;refine quiet_load_mid 77 (.tmp 45) rfl gl (e*21) (by rfl) c1 _ HQ1.out hu rfl hi1 ?_;go_big_quiet_on;simp only[Act.put,List.setIfInBounds_toArray,List.set_cons_zero,List.set_cons_succ])
            |(go_big_quiet_want;refine quiet_load_mid 77 (.tmp 3) rfl X 0 (by rfl) c2 _ HQ2.out hu rfl hi2 ?_;go_big_quiet_on;simp only[Act.put,List.setIfInBounds_toArray,List.set_cons_zero,List.set_cons_succ])
            |(go_big_quiet_want;refine quiet_eql 77 77 (.tmp 46) (.tmp 47) rfl c1.toArray c2.toArray (by rfl) (by rfl) _ hm HEQ.out ?_;go_big_quiet_on;simp only[Act.put,List.setIfInBounds_toArray,List.set_cons_zero,List.set_cons_succ])
            |go_big_quiet_step (fail))
          refine wpQuiet_nil ?_
          intro _ hw'
          obtain⟨nq,hw''⟩:=hw'
          subst hw''
          have HB2:Hid (Below X w (wr.drewN nq)):=hd ⟨HB.out.os,HB.out.tape,HB.out.output,HB.out.size,HB.out.block⟩
          cases bq
          · go_wp2
            go_roundg gf
            case measure=>omega
            case rel=>
              refine⟨j+1,by go_num,by omega,by omega,HB2,HX0,hd (fun i hi=>?_)⟩
              rw[Hek.out,List.mem_append,List.mem_singleton]at hi
              rcases hi with hi|rfl
              · exact Hno.out i hi
              · exact Hxn.out (by simp)
          · go_wp2
            go_ret
            have hxL:=Hxe.out (by simp)
            refine⟨by simp[hxL],tg,?_,Gro.of_below (by rw[HX.out];exact HB2.out)⟩
            unfold addD
            rw[if_pos hxL]
            exact Hh.out.below (by rw[HX.out];exact HB2.out)
        · obtain rfl:j=K.length:=by omega
          have HxL:Hid (x ∉ L):=hd (Hne.out (fun i hi=>Hno.out i (by rw[List.take_length];exact hi)))
          have cl0:=HCl.out _ HB.out
          have cb0:=HCb.out _ HB.out
          have HS1:Hid (Sts wr base T tg L):=hd (Hh.out.below (by rw[HX.out];exact HB.out))
          have hob:=HOb.out _ HB.out
          have fz:=HS1.out.fz
          obtain⟨i0,hi0,hz0,hz1,hz2⟩:=info_parts info_int
          have hbw:base<=wr.heap.size:=by have:=HB.out.size;have:=HX.out;omega
          have lTw:T<wr.heap.size:=cell_T HS1.out
          have hno:(Value.slice ba K.length bc).ownBlock≠some T:=fun e=>by have:=Htb.out T e;rw[HS1.out.tT]at this;simp at this;omega
          clear hj hjf hjl Hno HOl HOb HCl HCb HK Hne hkl
          have hkl:K.length<=2000000000:=by rw[<-HKs.out];exact Nat.le_trans (idx_len L nn) hn
          have hkI:(K.length:Int)<=2000000000:=by omega
          have hLI:(L.length:Int)<=2000000000:=by omega
          go_upto_region 13 with fail
          go_cut [5]from 50 to 67 (fun nv wx=>nv= .int .i64 nn/\∃tg2,Hid (Sts2 wx base T tg2 L (L++ [x])/\Gro w wx tg tg2/\wx.heap[X]?=some (.cells (stV x) 77 (0,0))))
          case first=>
            go_region_law
              ((refine step_append_lies _ (by rfl) _ _ _ (by rfl) base 3 i0 _ 1 8 uInts hi0 hz0 hz1 hz2 rfl (by omega) (.slice ba K.length bc) K.length (K.map fun i:Nat=>Value.int .i64 i) (by rfl) ((hob.alloc _).drew)
                  ⟨wr.heap.size,0,none⟩ 1 1 [.int .i64 L.length] (by rfl) (by rfl) (World.news_of_block (cs:= #[.int .i64 L.length]) (t:=3) (fr:=(0,0)) (heap_alloc_new wr _)) (by simp[Value.oneCell'])
                  (by omega) (by unfold maxLen;omega) (by omega) (by simp;omega) (wr.heap.size+1) (by simp) ?_;intro g cap w1 hown1 hgrow hat hlt;have r1:w1.cell? ⟨T,1+nn,none⟩=some (.slice ba K.length bc):=(hgrow.cell_far _ (by simp;omega) (Ne.symm hno)).trans (by go_keep);have r2:w1.frozen? ⟨T,1+nn,none⟩=false:=(hgrow.frozen_far _ (by simp;omega) (Ne.symm hno)).trans ((World.frozen?_alloc_old _ _ _ (by show T≠_;omega)).trans (fz (1+nn)))))
            all_goals
              rw[<-HKs.out]at hown1
              obtain⟨tg2,hS2,hG2⟩:=HS1.out.bucket (x:=x) (v:= .slice ba K.length bc) (o:= .cells #[.int .i64 L.length] 3) hnlt Hnn.out.symm cb0 (fun k hk=>Htb.out k hk) hown1 ⟨hgrow.os,hgrow.tape,hgrow.output,hgrow.size,hgrow.block⟩ hat hlt hbw
              rw[HKs.out]at hS2 hG2
              have HR:Hid (Sts2 (w1.setCell ⟨T,1+nn,none⟩ (.slice (some ⟨g,0,none⟩) (K.length+1) cap)) base T tg2 L (L++ [x])/\Gro w (w1.setCell ⟨T,1+nn,none⟩ (.slice (some ⟨g,0,none⟩) (K.length+1) cap)) tg tg2/\(w1.setCell ⟨T,1+nn,none⟩ (.slice (some ⟨g,0,none⟩) (K.length+1) cap)).heap[X]?=some (.cells (stV x) 77 (0,0))):=
                hd ⟨hS2,Gro.trans (Gro.of_below (tg:=tg) (by rw[HX.out];exact HB.out)) hG2,(hG2.block X (by have:=HX0.out;exact(Array.getElem?_eq_some_iff.1 this).1) (by
                  cases ht:tg X with
                  |none=>rfl
                  |some z=>have:=(Hh.out.tl X (by rw[ht];simp)).2;rw[HX.out]at this;omega)).trans HX0.out⟩
              clear hown1 hgrow hat hlt r1 r2 hS2 hG2
              go_wp2_with fail
              go_meet
              case rel=>exact⟨rfl,tg2,HR⟩
          case rest=>
            obtain⟨rfl,tg2,H2⟩:=hcut
            clear cb0 cl0 hob fz HS1 HX0 HB hno Htb Htl hi0 hz0 hz1 hz2 i0
            obtain⟨vl,hvl,hol,htl⟩:=H2.out.1.cl
            obtain⟨la,lc,rfl⟩:=owns_shape hol
            have fz:=H2.out.1.fz
            have Htl2:=hd htl
            have hbw1:base<=wc.heap.size:=by have:=H2.out.2.1.size;have:=HX.out;omega
            have lT1:T<wc.heap.size:=cell_T H2.out.1
            have hno2:(Value.slice la L.length lc).ownBlock≠some T:=fun e=>by have:=htl T e;rw[H2.out.1.tT]at this;simp at this
            have r1:wc.rangeAt X 0 (stL x):=by
              have:=World.rangeAt_of_block H2.out.2.2 0 21
              rw[show((stV x).extract 0 (0+21)).toList=stL x by kernel_rfl]at this
              exact this
            have hu:=und_state.choose_spec
            have hi2:(Tryz.prog.info? 77).map (·.size)=some (stL x).length:=info_state
            obtain⟨i1,hi1,hy0,hy1,hy2⟩:=info_parts info_st
            clear htl
            go_wp2_with fail
            refine wp_region_any (by kernel_rfl) ?_
            change wpAny _ _ _ _ _ _ _ (World.drew _)
            have hol2:wc.drew.ownsRow base 77 21 (.slice la L.length lc) L.length (sts L):=hol.drew
            have cl2:wc.drew.cell? ⟨T,0,none⟩=some (.slice la L.length lc):=hvl
            have lT2:T<wc.drew.heap.size:=lT1
            have fz2:∀i,wc.drew.frozen? ⟨T,i,none⟩=false:=fz
            have hbw2:base<=wc.drew.heap.size:=hbw1
            have r2:wc.drew.rangeAt X 0 (stL x):=r1
            have HS3:Hid (Sts2 wc.drew base T tg2 L (L++ [x])):=hd (H2.out.1.same (Nat.le_refl _) (fun _ _=>rfl))
            have HG3:Hid (Gro w wc.drew tg tg2):=hd ⟨H2.out.2.1.os,H2.out.2.1.tape,H2.out.2.1.output,H2.out.2.1.size,H2.out.2.1.block,H2.out.2.1.tag⟩
            generalize wc.drew=wd at*
            clear fz hvl hol lT1 hbw1 r1 H2
            have fz:=fz2
            have Hol:=hd hol2
            have HFin:Hid (∀(g3 cap3:Nat) (w3:World),w3.ownsRow base 77 21 (.slice (some ⟨g3,0,none⟩) (L.length+1) cap3) (L.length+1) (sts L++stL x)->(wd.alloc (.cells (stV x) 77)).grownBy w3 (Value.slice la L.length lc).ownBlock->((Value.slice la L.length lc).ownBlock=some g3\/g3=wd.heap.size+1)->g3<w3.heap.size->
                (Ending.returned (.bool true)= .returned (.bool (decide (x ∉ L)))/\∃tg',Sts (w3.setCell ⟨T,0,none⟩ (.slice (some ⟨g3,0,none⟩) (L.length+1) cap3)) base T tg' (addD L x)/\Gro w (w3.setCell ⟨T,0,none⟩ (.slice (some ⟨g3,0,none⟩) (L.length+1) cap3)) tg tg')):=hd (fun g3 cap3 w3 h1 h2 h3 h4=>by
              obtain⟨tg3,k1,k2⟩:=HS3.out.full cl2 Htl2.out h1 h2 h3 h4 hbw2
              refine⟨by simp[HxL.out],tg3,?_,HG3.out.trans k2⟩
              unfold addD
              rw[if_neg HxL.out]
              exact k1)
            clear hol2 fz2
            refine wpAny_takeL (i:=0) (v:= .pointer (some ⟨T,0,none⟩)) rfl (by kernel_rfl) (by kernel_rfl) (by kernel_rfl) (fun _ _ _ h=>h) (Or.inl ⟨by rfl,by intro w;go_simp⟩) ?_
            simp only[Act.put,List.setIfInBounds_toArray,List.set_cons_zero,List.set_cons_succ]
            refine wpAny_takeL (i:=1) (v:= .pointer (some ⟨T,0,none⟩)) rfl (by kernel_rfl) (by kernel_rfl) (by kernel_rfl) (fun _ _ _ h=>h) (Or.inl ⟨by rfl,by intro w;go_simp⟩) ?_
            simp only[Act.put,List.setIfInBounds_toArray,List.set_cons_zero,List.set_cons_succ]
            refine wpAny_takeL (i:=2) (v:= .pointer (some ⟨T,0,none⟩)) rfl (by kernel_rfl) (by kernel_rfl) (by kernel_rfl) (fun _ _ _ h=>h) (Or.inl ⟨by rfl,by intro w;go_simp⟩) ?_
            simp only[Act.put,List.setIfInBounds_toArray,List.set_cons_zero,List.set_cons_succ]
            refine wpAny_takeL (i:=3) (v:= .pointer (some ⟨T,0,none⟩)) rfl (by kernel_rfl) (by kernel_rfl) (by kernel_rfl) (fun _ _ _ h=>h) (Or.inl ⟨by rfl,by intro w;go_simp⟩) ?_
            simp only[Act.put,List.setIfInBounds_toArray,List.set_cons_zero,List.set_cons_succ]
            refine wpAny_ready (rs:= [4,5]) (by kernel_rfl) (by simp) ?_
            refine AllReady.consL rfl (fun K hK=>?_) ?_
            · go_simp
              refine hK _ _ ?_
              clear hK K
              refine wpAny_ready (rs:= [5]) (by kernel_rfl) (by simp) ?_
              refine AllReady.consL rfl (fun K hK=>?_) AllReady.nil
              refine step_load_mid rfl 77 (.tmp 3) rfl X 0 (by rfl) (stL x) _ r2 hu rfl hi2 ?_
              refine hK _ _ ?_
              clear hK K
              simp only[Act.put,List.setIfInBounds_toArray,List.set_cons_zero,List.set_cons_succ]
              refine wpAny_ready (rs:= [6]) (by kernel_rfl) (by simp) ?_
              refine AllReady.consL rfl (fun K hK=>?_) AllReady.nil
              refine step_one rfl (.tmp 73) rfl x (by rfl) ?_
              refine hK _ _ ?_
              clear hK K
              simp only[Act.put,List.setIfInBounds_toArray,List.set_cons_zero,List.set_cons_succ]
              refine wpAny_ready (rs:= [7]) (by kernel_rfl) (by simp) ?_
              refine AllReady.consL rfl (fun K hK=>?_) AllReady.nil
              refine step_append_lies _ (by rfl) _ _ _ (by rfl) base 77 i1 _ 21 168 uStates hi1 hy0 hy1 hy2 rfl (by omega) (.slice la L.length lc) L.length (sts L) (by rfl) (Hol.out.alloc _) ⟨wd.heap.size,0,none⟩ 1 1 (stL x) (by rfl) (by rfl) (World.news_of_block (cs:=stV x) (t:=77) (fr:=(0,0)) (heap_alloc_new wd _)) (by exact stL_one x) (by omega) (by unfold maxLen;omega) (by omega) (by simp;omega) (wd.heap.size+1) (by simp) ?_
              intro g3 cap3 w3 hown3 hgrow3 hat3 hlt3
              have r3:w3.cell? ⟨T,0,none⟩=some (.slice la L.length lc):=(hgrow3.cell_far _ (by simp;omega) (Ne.symm hno2)).trans ((World.cell?_alloc_lt _ _ _ lT2).trans cl2)
              have r4:w3.frozen? ⟨T,0,none⟩=false:=(hgrow3.frozen_far _ (by simp;omega) (Ne.symm hno2)).trans ((World.frozen?_alloc_old _ _ _ (by show T≠_;omega)).trans (fz 0))
              refine hK _ _ ?_
              clear hK K
              simp only[Act.put,List.setIfInBounds_toArray,List.set_cons_zero,List.set_cons_succ]
              refine wpAny_takeL (i:=8) (v:= .pointer (some ⟨T,0,none⟩)) rfl (by kernel_rfl) (by kernel_rfl) (by kernel_rfl) (fun _ _ _ h=>h) (Or.inl ⟨by rfl,by intro w;go_simp⟩) ?_
              simp only[Act.put,List.setIfInBounds_toArray,List.set_cons_zero,List.set_cons_succ]
              refine wpAny_takeL (i:=9) (v:= .pointer (some ⟨T,0,none⟩)) rfl (by kernel_rfl) (by kernel_rfl) (by kernel_rfl) (fun _ _ _ h=>h) (Or.inl ⟨by rfl,by intro w;go_simp⟩) ?_
              simp only[Act.put,List.setIfInBounds_toArray,List.set_cons_zero,List.set_cons_succ]
              refine wpAny_ready (rs:= [10]) (by kernel_rfl) (by simp) ?_
              refine AllReady.consL rfl (fun K hK=>?_) AllReady.nil
              go_simp
              refine hK _ _ ?_
              clear hK K
              refine wpAny_done (by kernel_rfl) ?_ _
              have HF:=hd (HFin.out _ _ _ hown3 hgrow3 hat3 hlt3)
              clear hown3 hgrow3 hat3 hlt3 r3 r4
              go_wp2
              go_ret
              exact HF.out
            refine AllReady.consL rfl (fun K hK=>?_) AllReady.nil
            refine step_load_mid rfl 77 (.tmp 3) rfl X 0 (by rfl) (stL x) _ r2 hu rfl hi2 ?_
            refine hK _ _ ?_
            clear hK K
            simp only[Act.put,List.setIfInBounds_toArray,List.set_cons_zero,List.set_cons_succ]
            refine wpAny_ready (rs:= [4,6]) (by kernel_rfl) (by simp) ?_
            refine AllReady.consL rfl (fun K hK=>?_) ?_
            · go_simp
              refine hK _ _ ?_
              clear hK K
              refine wpAny_ready (rs:= [6]) (by kernel_rfl) (by simp) ?_
              refine AllReady.consL rfl (fun K hK=>?_) AllReady.nil
              refine step_one rfl (.tmp 73) rfl x (by rfl) ?_
              refine hK _ _ ?_
              clear hK K
              simp only[Act.put,List.setIfInBounds_toArray,List.set_cons_zero,List.set_cons_succ]
              refine wpAny_ready (rs:= [7]) (by kernel_rfl) (by simp) ?_
              refine AllReady.consL rfl (fun K hK=>?_) AllReady.nil
              refine step_append_lies _ (by rfl) _ _ _ (by rfl) base 77 i1 _ 21 168 uStates hi1 hy0 hy1 hy2 rfl (by omega) (.slice la L.length lc) L.length (sts L) (by rfl) (Hol.out.alloc _) ⟨wd.heap.size,0,none⟩ 1 1 (stL x) (by rfl) (by rfl) (World.news_of_block (cs:=stV x) (t:=77) (fr:=(0,0)) (heap_alloc_new wd _)) (by exact stL_one x) (by omega) (by unfold maxLen;omega) (by omega) (by simp;omega) (wd.heap.size+1) (by simp) ?_
              intro g3 cap3 w3 hown3 hgrow3 hat3 hlt3
              have r3:w3.cell? ⟨T,0,none⟩=some (.slice la L.length lc):=(hgrow3.cell_far _ (by simp;omega) (Ne.symm hno2)).trans ((World.cell?_alloc_lt _ _ _ lT2).trans cl2)
              have r4:w3.frozen? ⟨T,0,none⟩=false:=(hgrow3.frozen_far _ (by simp;omega) (Ne.symm hno2)).trans ((World.frozen?_alloc_old _ _ _ (by show T≠_;omega)).trans (fz 0))
              refine hK _ _ ?_
              clear hK K
              simp only[Act.put,List.setIfInBounds_toArray,List.set_cons_zero,List.set_cons_succ]
              refine wpAny_takeL (i:=8) (v:= .pointer (some ⟨T,0,none⟩)) rfl (by kernel_rfl) (by kernel_rfl) (by kernel_rfl) (fun _ _ _ h=>h) (Or.inl ⟨by rfl,by intro w;go_simp⟩) ?_
              simp only[Act.put,List.setIfInBounds_toArray,List.set_cons_zero,List.set_cons_succ]
              refine wpAny_takeL (i:=9) (v:= .pointer (some ⟨T,0,none⟩)) rfl (by kernel_rfl) (by kernel_rfl) (by kernel_rfl) (fun _ _ _ h=>h) (Or.inl ⟨by rfl,by intro w;go_simp⟩) ?_
              simp only[Act.put,List.setIfInBounds_toArray,List.set_cons_zero,List.set_cons_succ]
              refine wpAny_ready (rs:= [10]) (by kernel_rfl) (by simp) ?_
              refine AllReady.consL rfl (fun K hK=>?_) AllReady.nil
              go_simp
              refine hK _ _ ?_
              clear hK K
              refine wpAny_done (by kernel_rfl) ?_ _
              have HF:=hd (HFin.out _ _ _ hown3 hgrow3 hat3 hlt3)
              clear hown3 hgrow3 hat3 hlt3 r3 r4
              go_wp2
              go_ret
              exact HF.out
            refine AllReady.consL rfl (fun K hK=>?_) AllReady.nil
            refine step_one rfl (.tmp 73) rfl x (by rfl) ?_
            refine hK _ _ ?_
            clear hK K
            simp only[Act.put,List.setIfInBounds_toArray,List.set_cons_zero,List.set_cons_succ]
            have cl3:=(World.cell?_alloc_lt wd (.cells (stV x) 77) ⟨T,0,none⟩ lT2).trans cl2
            refine wpAny_ready (rs:= [4]) (by kernel_rfl) (by simp) ?_
            refine AllReady.consL rfl (fun K hK=>?_) AllReady.nil
            go_simp
            refine hK _ _ ?_
            clear hK K
            refine wpAny_ready (rs:= [7]) (by kernel_rfl) (by simp) ?_
            refine AllReady.consL rfl (fun K hK=>?_) AllReady.nil
            refine step_append_lies _ (by rfl) _ _ _ (by rfl) base 77 i1 _ 21 168 uStates hi1 hy0 hy1 hy2 rfl (by omega) (.slice la L.length lc) L.length (sts L) (by rfl) (Hol.out.alloc _) ⟨wd.heap.size,0,none⟩ 1 1 (stL x) (by rfl) (by rfl) (World.news_of_block (cs:=stV x) (t:=77) (fr:=(0,0)) (heap_alloc_new wd _)) (by exact stL_one x) (by omega) (by unfold maxLen;omega) (by omega) (by simp;omega) (wd.heap.size+1) (by simp) ?_
            intro g3 cap3 w3 hown3 hgrow3 hat3 hlt3
            have r3:w3.cell? ⟨T,0,none⟩=some (.slice la L.length lc):=(hgrow3.cell_far _ (by simp;omega) (Ne.symm hno2)).trans ((World.cell?_alloc_lt _ _ _ lT2).trans cl2)
            have r4:w3.frozen? ⟨T,0,none⟩=false:=(hgrow3.frozen_far _ (by simp;omega) (Ne.symm hno2)).trans ((World.frozen?_alloc_old _ _ _ (by show T≠_;omega)).trans (fz 0))
            refine hK _ _ ?_
            clear hK K
            simp only[Act.put,List.setIfInBounds_toArray,List.set_cons_zero,List.set_cons_succ]
            refine wpAny_takeL (i:=8) (v:= .pointer (some ⟨T,0,none⟩)) rfl (by kernel_rfl) (by kernel_rfl) (by kernel_rfl) (fun _ _ _ h=>h) (Or.inl ⟨by rfl,by intro w;go_simp⟩) ?_
            simp only[Act.put,List.setIfInBounds_toArray,List.set_cons_zero,List.set_cons_succ]
            refine wpAny_takeL (i:=9) (v:= .pointer (some ⟨T,0,none⟩)) rfl (by kernel_rfl) (by kernel_rfl) (by kernel_rfl) (fun _ _ _ h=>h) (Or.inl ⟨by rfl,by intro w;go_simp⟩) ?_
            simp only[Act.put,List.setIfInBounds_toArray,List.set_cons_zero,List.set_cons_succ]
            refine wpAny_ready (rs:= [10]) (by kernel_rfl) (by simp) ?_
            refine AllReady.consL rfl (fun K hK=>?_) AllReady.nil
            go_simp
            refine hK _ _ ?_
            clear hK K
            refine wpAny_done (by kernel_rfl) ?_ _
            have HF:=hd (HFin.out _ _ _ hown3 hgrow3 hat3 hlt3)
            clear hown3 hgrow3 hat3 hlt3 r3 r4
            go_wp2
            go_ret
            exact HF.out
end Go.Proofs.YtldiemjlpnachaaGreatDoor

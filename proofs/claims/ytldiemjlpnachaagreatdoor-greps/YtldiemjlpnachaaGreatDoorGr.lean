import Derived.Test.YtldiemjlpnachaaGreatDoorEv
import Derived.Test.YtldiemjlpnachaaGreatDoorIto
import Derived.Lib.AppendStr
import Derived.Lib.SmallJoins
import Derived.Lib.ItoaLen
namespace Go.Proofs.YtldiemjlpnachaaGreatDoor
open Go.RowKit
structure Opt where
 only:Bool
 invert:Bool
 count:Bool
 number:Bool
abbrev Tb(w:World):Prop:=Lib.TabIs Tryz.prog w "internal/strconv.uint64pow10" .u64 Lib.pow10Tab
theorem gTb:Tryz.prog.globalNamed "internal/strconv.uint64pow10" =some 0:=by kernel_rfl
theorem Tb.below{w w':World}{B:Nat}(h:Tb w)(k:Below B w w')(hB:0<B):Tb w':=by
 unfold Tb Lib.TabIs World.var? at*
 rw[gTb]at*
 simp only[Option.bind_some]at*
 rw[k.block _ hB]
 exact h
def byC(l:List UInt8):List Value:=l.map fun b=> .int .u8 b.toNat
theorem byC_app(a b:List UInt8):byC (a++b)=byC a++byC b:=by unfold byC;simp
theorem byC_str(s:ByteArray):Lib.strCells s=byC s.data.toList:=rfl
structure Gs(w:World)(S g:Nat)(o:Opt)(num ch:Nat)(out:List UInt8):Prop where
 c0:w.cell? ⟨S,0,none⟩=some (.pointer (some ⟨g,0,none⟩))
 c1:w.cell? ⟨S,1,none⟩=some (.bool o.only)
 c2:w.cell? ⟨S,2,none⟩=some (.bool o.invert)
 c3:w.cell? ⟨S,3,none⟩=some (.bool o.count)
 c4:w.cell? ⟨S,4,none⟩=some (.bool o.number)
 c5:w.cell? ⟨S,5,none⟩=some (.int .i64 num)
 c6:w.cell? ⟨S,6,none⟩=some (.int .i64 ch)
 c7:∃v,w.cell? ⟨S,7,none⟩=some v/\w.ownsRow (S+1) 5 1 v out.length (byC out)
 f:∀i,w.frozen? ⟨S,i,none⟩=false
theorem Gs.lt{w:World}{S g:Nat}{o:Opt}{num ch:Nat}{out:List UInt8}(h:Gs w S g o num ch out):S<w.heap.size:=World.block_lt_of_cell? w _ h.c0
theorem Gs.of{w w':World}{S g:Nat}{o:Opt}{num ch:Nat}{out:List UInt8}(h:Gs w S g o num ch out)(hS:w'.heap[S]?=w.heap[S]?)(ho:∀v k,w.cell? ⟨S,7,none⟩=some v->v.ownBlock=some k->w'.heap[k]?=w.heap[k]?):Gs w' S g o num ch out:=by
 have c:∀i,w'.cell? ⟨S,i,none⟩=w.cell? ⟨S,i,none⟩:=fun i=>World.cell?_of_block hS
 obtain⟨v,h1,h2⟩:=h.c7
 exact⟨(c 0).trans h.c0,(c 1).trans h.c1,(c 2).trans h.c2,(c 3).trans h.c3,(c 4).trans h.c4,(c 5).trans h.c5,(c 6).trans h.c6,⟨v,(c 7).trans h1,owns_same h2 (fun k hk=>ho v k h1 hk)⟩,fun i=>(World.frozen?_of_block hS).trans (h.f i)⟩
theorem Gs.below{w w':World}{S g:Nat}{o:Opt}{num ch:Nat}{out:List UInt8}(h:Gs w S g o num ch out)(k:Below w.heap.size w w'):Gs w' S g o num ch out:=
 h.of (k.block S h.lt) (fun v b hv hb=>by
  obtain⟨v',h1,h2⟩:=h.c7
  rw[hv]at h1
  cases h1
  exact k.block b (h2.lt b hb).2)
theorem Gs.alloc{w:World}{S g:Nat}{o:Opt}{num ch:Nat}{out:List UInt8}(h:Gs w S g o num ch out)(ob:Obj):Gs (w.alloc ob) S g o num ch out:=h.below ((Below.refl _ _).alloc (Nat.le_refl _) _)
theorem Gs.setN{w:World}{S g:Nat}{o:Opt}{num ch:Nat}{out:List UInt8}(h:Gs w S g o num ch out)(n:Nat):Gs (w.setCell ⟨S,5,none⟩ (.int .i64 n)) S g o n ch out:=by
 have c:∀i,i≠5->(w.setCell ⟨S,5,none⟩ (.int .i64 n)).cell? ⟨S,i,none⟩=w.cell? ⟨S,i,none⟩:=fun i hi=>World.cell?_setCell_other _ _ _ _ (by rintro e;injection e with _ e2;exact hi e2.symm)
 obtain⟨v,h1,h2⟩:=h.c7
 exact⟨(c 0 (by omega)).trans h.c0,(c 1 (by omega)).trans h.c1,(c 2 (by omega)).trans h.c2,(c 3 (by omega)).trans h.c3,(c 4 (by omega)).trans h.c4,World.cell?_setCell_same _ _ _ h.c5,(c 6 (by omega)).trans h.c6,⟨v,(c 7 (by omega)).trans h1,ownsRow_setCell_other h2 (fun e=>by have:=(h2.lt S e).1;omega) _⟩,fun i=>by rw[World.frozen?_setCell];exact h.f i⟩
theorem Gs.setC{w:World}{S g:Nat}{o:Opt}{num ch:Nat}{out:List UInt8}(h:Gs w S g o num ch out)(n:Nat):Gs (w.setCell ⟨S,6,none⟩ (.int .i64 n)) S g o num n out:=by
 have c:∀i,i≠6->(w.setCell ⟨S,6,none⟩ (.int .i64 n)).cell? ⟨S,i,none⟩=w.cell? ⟨S,i,none⟩:=fun i hi=>World.cell?_setCell_other _ _ _ _ (by rintro e;injection e with _ e2;exact hi e2.symm)
 obtain⟨v,h1,h2⟩:=h.c7
 exact⟨(c 0 (by omega)).trans h.c0,(c 1 (by omega)).trans h.c1,(c 2 (by omega)).trans h.c2,(c 3 (by omega)).trans h.c3,(c 4 (by omega)).trans h.c4,(c 5 (by omega)).trans h.c5,World.cell?_setCell_same _ _ _ h.c6,⟨v,(c 7 (by omega)).trans h1,ownsRow_setCell_other h2 (fun e=>by have:=(h2.lt S e).1;omega) _⟩,fun i=>by rw[World.frozen?_setCell];exact h.f i⟩
structure Gf(w w':World)(S:Nat):Prop where
 bel:Below S w w'
 blk:∀(k:Nat) cs t fr,k≠S->w.heap[k]?=some (.cells cs t fr)->t≠5->w'.heap[k]?=some (.cells cs t fr)
theorem Gf.refl(w:World)(S:Nat):Gf w w S:=⟨Below.refl _ _,fun _ _ _ _ _ h _=>h⟩
theorem Gf.trans{a b c:World}{S:Nat}(h:Gf a b S)(k:Gf b c S):Gf a c S:=⟨h.bel.trans k.bel,fun i cs t fr h1 h2 h3=>k.blk i cs t fr h1 (h.blk i cs t fr h1 h2 h3) h3⟩
theorem Gf.of{w w':World}{S:Nat}(h:Below w.heap.size w w')(hS:S<=w.heap.size):Gf w w' S:=⟨h.mono hS,fun k _ _ _ _ h2 _=>(h.block k (Array.getElem?_eq_some_iff.1 h2).1).trans h2⟩
theorem Gf.alloc{w:World}{S:Nat}(hS:S<=w.heap.size)(o:Obj):Gf w (w.alloc o) S:=Gf.of ((Below.refl _ _).alloc (Nat.le_refl _) _) hS
theorem Gf.set{w:World}{S i:Nat}(v:Value):Gf w (w.setCell ⟨S,i,none⟩ v) S:=
 ⟨(Below.refl S w).setCell (Nat.le_refl S) v,fun _ _ _ _ h1 h2 _=>(Below.heap_setCell _ _ _ _ h1).trans h2⟩
theorem own_ty{w:World}{base e size:Nat}{v:Value}{n k:Nat}{xs:List Value}(h:w.ownsRow base e size v n xs)(hk:v.ownBlock=some k):∃cur,w.heap[k]?=some (.cells cur e (0,0)):=by
 rcases h.2 with⟨h0,_⟩|⟨g,cap,cur,hv,_,hg,_⟩
 ·rw[h0]at hk;cases hk
 ·rw[hv]at hk
  cases hk
  exact⟨cur,hg⟩
theorem Gs.app{w w1:World}{S g:Nat}{o:Opt}{num ch:Nat}{out add:List UInt8}(h:Gs w S g o num ch out){v v':Value}(hv:w.cell? ⟨S,7,none⟩=some v)(hown:w1.ownsRow (S+1) 5 1 v' (out.length+add.length) (byC out++byC add))(hgrow:w.grownBy w1 v.ownBlock):
  w1.cell? ⟨S,7,none⟩=some v/\w1.frozen? ⟨S,7,none⟩=false/\Gs (w1.setCell ⟨S,7,none⟩ v') S g o num ch (out++add)/\Gf w (w1.setCell ⟨S,7,none⟩ v') S:=by
 have hS:=h.lt
 obtain⟨v0,h1,h2⟩:=h.c7
 rw[hv]at h1
 cases h1
 have ulo:∀k,v.ownBlock=some k->S+1<=k:=fun k hk=>(h2.lt k hk).1
 have blk:∀k,k<=S->w1.heap[k]?=w.heap[k]?:=fun k hk=>hgrow.block k (by omega) (fun e=>by have:=ulo k e.symm;omega)
 have c:∀i,w1.cell? ⟨S,i,none⟩=w.cell? ⟨S,i,none⟩:=fun i=>World.cell?_of_block (blk S (Nat.le_refl _))
 have d:∀i,i≠7->(w1.setCell ⟨S,7,none⟩ v').cell? ⟨S,i,none⟩=w.cell? ⟨S,i,none⟩:=fun i hi=>(World.cell?_setCell_other _ _ _ _ (by rintro e;injection e with _ e2;exact hi e2.symm)).trans (c i)
 have fr:∀i,w1.frozen? ⟨S,i,none⟩=false:=fun i=>(World.frozen?_of_block (blk S (Nat.le_refl _))).trans (h.f i)
 refine⟨(c 7).trans hv,fr 7,⟨(d 0 (by omega)).trans h.c0,(d 1 (by omega)).trans h.c1,(d 2 (by omega)).trans h.c2,(d 3 (by omega)).trans h.c3,(d 4 (by omega)).trans h.c4,(d 5 (by omega)).trans h.c5,(d 6 (by omega)).trans h.c6,⟨v',World.cell?_setCell_same _ _ _ ((c 7).trans hv),?_⟩,fun i=>by rw[World.frozen?_setCell];exact fr i⟩,⟨⟨hgrow.os,hgrow.tape,hgrow.output,by simp[World.setCell];exact hgrow.size,fun k hk=>?_⟩,fun k cs t fr k1 k2 k3=>?_⟩⟩
 ·rw[byC_app,List.length_append]
  exact ownsRow_setCell_other hown (fun e=>by have:=(hown.lt S e).1;omega) _
 ·rw[Below.heap_setCell _ _ _ _ (by show k≠S;omega)]
  exact blk k (by omega)
 ·rw[Below.heap_setCell _ _ _ _ k1]
  refine(hgrow.block k (Array.getElem?_eq_some_iff.1 k2).1 (fun e=>?_)).trans k2
  obtain⟨cur,hc⟩:=own_ty h2 e.symm
  rw[k2]at hc
  cases hc
  exact k3 rfl
theorem uBytes:Tryz.prog.underlying 32=some (.slice 5):=by kernel_rfl
theorem uStr:Tryz.prog.underlying 9=some .string:=by kernel_rfl
theorem info_u8:(Tryz.prog.info? 5).map (fun i=>(i.zero,i.size,i.bytes))=some (some (.int .u8 0),1,1):=by kernel_rfl
def fmtL(o:Opt)(num:Nat)(line:List UInt8):List UInt8:=(if o.number=true then Lib.itoa num++ [58]else [])++line++ [10]
end Go.Proofs.YtldiemjlpnachaaGreatDoor
set_option maxHeartbeats 3200000
set_option maxRecDepth 100000
namespace Go.Proofs.YtldiemjlpnachaaGreatDoor
open Go.RowKit
theorem itoa_len(n:Nat)(h:n<=1000000000):(Lib.itoa (n:Int)).length<=21:=Lib.itoa_length_le _ (by omega) (by omega)
theorem below_grow(w:World)(k:Nat)(os:Array Obj):Below w.heap.size w (Go.Sort.grow (w.drewN k) os):=
 ⟨rfl,rfl,rfl,by show w.heap.size<=(w.heap++os).size;simp,fun i hi=>by show(w.heap++os)[i]?=_;rw[Array.getElem?_append_left hi]⟩
theorem gput_any{w:World}{S g:Nat}{o:Opt}{num ch:Nat}{out:List UInt8}(m:Gs w S g o num ch out)(ht:Tb w)(line:ByteArray)(hl:line.size<=1000000)(ho:out.length<=100000000000)(hn:num<=1000000):
  Calls Tryz.prog 29 #[.pointer (some ⟨S,0,none⟩),.string line] w fun e w'=>e= .returned (.tuple #[])/\Gs w' S g o num ch (out++fmtL o num line.data.toList)/\Gf w w' S:=by
 have lS:=m.lt
 have c4:=m.c4
 obtain⟨v,c7,ho7⟩:=m.c7
 obtain⟨ua,uc,rfl⟩:=owns_shape ho7
 have f7:=m.f 7
 have c5:=m.c5
 obtain⟨i0,hi0,hz0,hz1,hz2⟩:=info_parts info_u8
 have Hm:=hd m
 have Ho7:=hd ho7
 have Ht:=hd ht
 have Hll:=hd (len_data line)
 clear m ho7 ht
 cases hnb:o.number
 ·rw[hnb]at c4
  have HF:Hid (fmtL o num line.data.toList=line.data.toList++ [10]):=hd (by unfold fmtL;rw[if_neg (by rw[hnb];simp),List.nil_append])
  clear hnb
  go_enter Tryz.func29,Tryz.ntmps29
  go_upto_region 5 with
   (refine Lib.wpList_append_own_string _ rfl (.tmp 37) (.tmp 38) 32 9 rfl (S+1) 5 i0 uBytes uStr hi0 hz0 hz1 hz2 (.slice ua out.length uc) out.length (byC out) (by rfl) Ho7.out line (by rfl) (by unfold maxLen;omega) (by omega) (by omega) ?_
    intro v2 w2 hown2 hgrow2 _
    obtain⟨va2,vc2,rfl⟩:=owns_shape hown2
    obtain⟨r7,rf7,hm2,hb2⟩:=Hm.out.app (add:=line.data.toList) c7 (by rw[Hll.out];exact hown2) hgrow2
    have Hm2:=hd hm2
    have Hb2:=hd hb2
    clear hown2 hgrow2 hm2 hb2)
  clear r7 rf7 c7 f7 Ho7 c4 c5 lS
  have hlen:(out++line.data.toList).length=out.length+line.size:=by rw[List.length_append,Hll.out]
  obtain⟨v3,c7,ho3⟩:=Hm2.out.c7
  rw[hlen]at ho3
  obtain⟨ub,ud,rfl⟩:=owns_shape ho3
  have Ho3:=hd ho3
  have f7:=Hm2.out.f 7
  have lS:=Hm2.out.lt
  generalize w2.setCell ⟨S,7,none⟩ (.slice va2 (out.length+line.size) vc2)=W3 at*
  clear ho3
  go_wp2_with
   (refine wpList_append_lies _ (by rfl) _ _ _ (by rfl) (S+1) 5 i0 _ 1 1 uBytes hi0 hz0 hz1 hz2 rfl (by omega) (.slice ub (out.length+line.size) ud) (out.length+line.size) (byC (out++line.data.toList)) (by rfl) (Ho3.out.alloc _)
     ⟨W3.heap.size,0,none⟩ 1 1 [.int .u8 10] (by rfl) (by rfl) (World.news_of_block (cs:= #[.int .u8 10]) (t:=5) (fr:=(0,0)) (heap_alloc_new W3 _)) (by simp[Value.oneCell'])
     (by omega) (by unfold maxLen;omega) (by omega) (by simp;omega) (W3.heap.size+1) (by simp) ?_
    intro gg cap w4 hown4 hgrow4 hat hlt
    obtain⟨r7,rf7,hm4,hb4⟩:=(Hm2.out.alloc _).app (add:= [10]) ((World.cell?_alloc_lt _ _ _ lS).trans c7) (by rw[hlen];exact hown4) hgrow4
    have HZ:Hid (Gs (w4.setCell ⟨S,7,none⟩ (.slice (some ⟨gg,0,none⟩) (out.length+line.size+1) cap)) S g o num ch (out++fmtL o num line.data.toList)/\Gf w (w4.setCell ⟨S,7,none⟩ (.slice (some ⟨gg,0,none⟩) (out.length+line.size+1) cap)) S):=hd ⟨by rw[HF.out,<-List.append_assoc];exact hm4,Hb2.out.trans ((Gf.alloc (by omega) _).trans hb4)⟩
    clear hown4 hgrow4 hat hlt hm4 hb4)
  go_end0
  exact⟨rfl,HZ.out.1,HZ.out.2⟩
 ·rw[hnb]at c4
  have HF:Hid (fmtL o num line.data.toList=Lib.itoa (num:Int)++ [58]++line.data.toList++ [10]):=hd (by unfold fmtL;rw[if_pos hnb])
  obtain⟨A,hA⟩:∃A:ByteArray,A=⟨(Lib.itoa (num:Int)).toArray⟩:=⟨_,rfl⟩
  have Hit:Hid (Calls Tryz.prog 9 #[.int .i64 (num:Int)] w fun e w'=>e= .returned (.string A)/\∃k os,w'=Go.Sort.grow (w.drewN k) os):=hd (by rw[hA];exact Tryz.strconv_Itoa (num:Int) (by omega) (by omega) w Ht.out)
  have HAl:Hid (A.size=(Lib.itoa (num:Int)).length):=hd (by rw[hA];simp[ByteArray.size])
  have HAd:Hid (A.data.toList=Lib.itoa (num:Int)):=hd (by rw[hA])
  clear hA
  have hA21:=itoa_len num (by omega)
  clear hnb f7 c7 Ho7
  go_enter Tryz.func29,Tryz.ntmps29
  go_wp2_with fail
  refine Hit.out.mono ?_
  rintro e1 w1 ⟨rfl,k,os,hw1⟩
  have HB:Hid (Gf w w1 S):=hd (by subst hw1;exact Gf.of (below_grow w k os) (Nat.le_of_lt lS))
  have HmA:Hid (Gs w1 S g o num ch out):=hd (by subst hw1;exact Hm.out.below (below_grow w k os))
  clear hw1 Hit Hm c4 c5 lS
  have hAs:A.size<=21:=by rw[HAl.out];exact hA21
  obtain⟨v0,c7,ho0⟩:=HmA.out.c7
  obtain⟨ub,ud,rfl⟩:=owns_shape ho0
  have Ho0:=hd ho0
  have f7:=HmA.out.f 7
  have lS:=HmA.out.lt
  clear ho0
  go_upto_region 3 with
   (refine Lib.wpList_append_own_string _ rfl (.tmp 19) (.tmp 20) 32 9 rfl (S+1) 5 i0 uBytes uStr hi0 hz0 hz1 hz2 (.slice ub (out.length) ud) (out.length) (byC (out)) (by rfl) Ho0.out A (by rfl) (by unfold maxLen;omega) (by omega) (by omega) ?_
    intro v2 w2 hown2 hgrow2 _
    obtain⟨va2,vc2,rfl⟩:=owns_shape hown2
    obtain⟨r7,rf7,hm2,hb2⟩:=HmA.out.app (add:=Lib.itoa (num:Int)) c7 (by rw[<-HAl.out,<-HAd.out,<-byC_str];exact hown2) hgrow2
    have Hm2:=hd hm2
    have Hb2:=hd (HB.out.trans hb2)
    clear hown2 hgrow2 hm2 hb2)
  clear r7 rf7 c7 f7 Ho0 lS HB HmA
  generalize w2.setCell ⟨S,7,none⟩ (.slice va2 (out.length+A.size) vc2)=W2 at*
  have HB:=Hb2
  clear Hb2
  have Hlen:Hid ((out++Lib.itoa (num:Int)).length=out.length+A.size):=hd (by rw[List.length_append,HAl.out])
  obtain⟨v0,c7,ho0⟩:=Hm2.out.c7
  rw[Hlen.out]at ho0
  obtain⟨ub,ud,rfl⟩:=owns_shape ho0
  have Ho0:=hd ho0
  have f7:=Hm2.out.f 7
  have lS:=Hm2.out.lt
  clear ho0
  go_upto_region 4 with
   (refine wpList_append_lies _ (by rfl) _ _ _ (by rfl) (S+1) 5 i0 _ 1 1 uBytes hi0 hz0 hz1 hz2 rfl (by omega) (.slice ub (out.length+A.size) ud) (out.length+A.size) (byC (out++Lib.itoa (num:Int))) (by rfl) (Ho0.out.alloc _)
     ⟨W2.heap.size,0,none⟩ 1 1 [.int .u8 58] (by rfl) (by rfl) (World.news_of_block (cs:= #[.int .u8 58]) (t:=5) (fr:=(0,0)) (heap_alloc_new W2 _)) (by simp[Value.oneCell'])
     (by omega) (by unfold maxLen;omega) (by omega) (by simp;omega) (W2.heap.size+1) (by simp) ?_
    intro gg3 cap3 w3 hown3 hgrow3 hat hlt
    obtain⟨r7,rf7,hm3,hb3⟩:=(Hm2.out.alloc _).app (add:= [58]) ((World.cell?_alloc_lt _ _ _ lS).trans c7) (by rw[Hlen.out];exact hown3) hgrow3
    have Hm3:=hd hm3
    have Hb3:=hd (HB.out.trans ((Gf.alloc (by omega) _).trans hb3))
    clear hown3 hgrow3 hat hlt hm3 hb3)
  clear r7 rf7 c7 f7 Ho0 lS HB Hm2
  generalize w3.setCell ⟨S,7,none⟩ (.slice (some ⟨gg3,0,none⟩) (out.length+A.size+1) cap3)=W3 at*
  have HB:=Hb3
  clear Hb3
  clear Hlen
  have Hlen:Hid ((out++Lib.itoa (num:Int)++ [58]).length=out.length+A.size+1):=hd (by rw[List.length_append,List.length_append,HAl.out];rfl)
  obtain⟨v0,c7,ho0⟩:=Hm3.out.c7
  rw[Hlen.out]at ho0
  obtain⟨ub,ud,rfl⟩:=owns_shape ho0
  have Ho0:=hd ho0
  have f7:=Hm3.out.f 7
  have lS:=Hm3.out.lt
  clear ho0
  go_upto_region 5 with
   (refine Lib.wpList_append_own_string _ rfl (.tmp 37) (.tmp 38) 32 9 rfl (S+1) 5 i0 uBytes uStr hi0 hz0 hz1 hz2 (.slice ub (out.length+A.size+1) ud) (out.length+A.size+1) (byC (out++Lib.itoa (num:Int)++ [58])) (by rfl) Ho0.out line (by rfl) (by unfold maxLen;omega) (by omega) (by omega) ?_
    intro v4 w4 hown4 hgrow4 _
    obtain⟨va4,vc4,rfl⟩:=owns_shape hown4
    obtain⟨r7,rf7,hm4,hb4⟩:=Hm3.out.app (add:=line.data.toList) c7 (by rw[Hlen.out,Hll.out];exact hown4) hgrow4
    have Hm4:=hd hm4
    have Hb4:=hd (HB.out.trans hb4)
    clear hown4 hgrow4 hm4 hb4)
  clear r7 rf7 c7 f7 Ho0 lS HB Hm3
  generalize w4.setCell ⟨S,7,none⟩ (.slice va4 (out.length+A.size+1+line.size) vc4)=W4 at*
  have HB:=Hb4
  clear Hb4
  clear Hlen
  have Hlen:Hid ((out++Lib.itoa (num:Int)++ [58]++line.data.toList).length=out.length+A.size+1+line.size):=hd (by rw[List.length_append,List.length_append,List.length_append,HAl.out,Hll.out];rfl)
  obtain⟨v0,c7,ho0⟩:=Hm4.out.c7
  rw[Hlen.out]at ho0
  obtain⟨ub,ud,rfl⟩:=owns_shape ho0
  have Ho0:=hd ho0
  have f7:=Hm4.out.f 7
  have lS:=Hm4.out.lt
  clear ho0
  go_wp2_with
   (refine wpList_append_lies _ (by rfl) _ _ _ (by rfl) (S+1) 5 i0 _ 1 1 uBytes hi0 hz0 hz1 hz2 rfl (by omega) (.slice ub (out.length+A.size+1+line.size) ud) (out.length+A.size+1+line.size) (byC (out++Lib.itoa (num:Int)++ [58]++line.data.toList)) (by rfl) (Ho0.out.alloc _)
     ⟨W4.heap.size,0,none⟩ 1 1 [.int .u8 10] (by rfl) (by rfl) (World.news_of_block (cs:= #[.int .u8 10]) (t:=5) (fr:=(0,0)) (heap_alloc_new W4 _)) (by simp[Value.oneCell'])
     (by omega) (by unfold maxLen;omega) (by omega) (by simp;omega) (W4.heap.size+1) (by simp) ?_
    intro gg5 cap5 w5 hown5 hgrow5 hat hlt
    obtain⟨r7,rf7,hm5,hb5⟩:=(Hm4.out.alloc _).app (add:= [10]) ((World.cell?_alloc_lt _ _ _ lS).trans c7) (by rw[Hlen.out];exact hown5) hgrow5
    have Hm5:=hd hm5
    have Hb5:=hd (HB.out.trans ((Gf.alloc (by omega) _).trans hb5))
    clear hown5 hgrow5 hat hlt hm5 hb5)
  go_end0
  refine⟨rfl,?_,Hb5.out⟩
  have h:=Hm5.out
  rw[HF.out]
  simp only[List.append_assoc]at h ⊢
  exact h
end Go.Proofs.YtldiemjlpnachaaGreatDoor

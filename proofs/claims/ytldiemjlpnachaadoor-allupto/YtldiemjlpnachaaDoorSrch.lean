import Derived.Test.YtldiemjlpnachaaDoorCod
import Derived.Test.YtldiemjlpnachaaDoorFr
import Derived.Test.YtldiemjlpnachaaDoorPike
import Derived.Deep.QuietTactic
import Derived.BigQuiet
import Derived.BigRegion
import Derived.Deep.RegionHeld3
import Derived.Deep.RegionWith
namespace Go.Proofs.YtldiemjlpnachaaDoor
open Go.RowKit
theorem has_word{z:Int}{f:Nat→Bool}{c:Nat}(h:Word z f (c/32)):(bits .and .u32 z (2^(c%32)%4294967296) !=0)=f c:=by
 have hp:2^(c%32)<4294967296:=Nat.lt_of_lt_of_eq (Nat.pow_lt_pow_right (by omega) (show c%32<32 by omega)) (by decide)
 have e0:(2:Int)^(c%32)=((2^(c%32):Nat):Int):=by rw[Int.natCast_pow];rfl
 have e:(2:Int)^(c%32)%4294967296=((2^(c%32):Nat):Int):=by
  rw[e0]
  generalize 2^(c%32)=P at hp
  omega
 rw[e,u32_and _ _ h.1 h.2.1 (by omega) (by generalize 2^(c%32)=P at hp;omega),Int.toNat_natCast,←h.bit]
 cases hb:z.toNat.testBit (c%32)
 ·have:z.toNat&&&2^(c%32)=0:=by
   apply Nat.eq_of_testBit_eq
   intro j
   rw[Nat.testBit_and,Nat.testBit_two_pow,Nat.zero_testBit]
   by_cases hj:c%32=j
   ·rw[←hj,hb];rfl
   ·simp[hj]
  rw[this];rfl
 ·have:z.toNat&&&2^(c%32)≠0:=by
   intro h0
   have:=congrArg (fun x=>x.testBit (c%32)) h0
   simp only[Nat.testBit_and,Nat.testBit_two_pow,Nat.zero_testBit,hb]at this
   simp at this
  simp only[bne_iff_ne,ne_eq]
  omega
set_option maxHeartbeats 800000 in
theorem has_any(B o:Nat)(c:Nat)(f:Nat→Bool)(w:World)(hc:c<256)(hs:SetIs w B o f):
  Calls Tryd.prog 59 #[.pointer (some ⟨B,o,none⟩),.int .u8 c] w fun e w'=>e= .returned (.bool (f c))∧w'=w:=by
 obtain⟨z,hz,hw⟩:=hs (c/32) (by omega)
 have Hw:=hd hw
 clear hw hs
 have hq0:(0:Int)≤(c:Int)/32:=by omega
 have hq1:(c:Int)/32<8:=by omega
 have hr0:(0:Int)≤(c:Int)%32:=by omega
 have hr1:(c:Int)%32<32:=by omega
 go_enter Tryd.func59,Tryd.ntmps59
 go_wp2
 go_ret
 exact⟨ret_bool (has_word Hw.out),rfl⟩
structure Bl(w w':World)(Bs:List Nat):Prop where
 os:w'.os=w.os
 tape:w'.tape=w.tape
 output:w'.output=w.output
 size:w.heap.size≤w'.heap.size
 block:∀k,k<w.heap.size→k ∉ Bs→w'.heap[k]?=w.heap[k]?
theorem Bl.refl(w:World)(Bs:List Nat):Bl w w Bs:=⟨rfl,rfl,rfl,Nat.le_refl _,fun _ _ _=>rfl⟩
theorem Bl.trans{a b c:World}{Bs:List Nat}(h:Bl a b Bs)(k:Bl b c Bs):Bl a c Bs:=⟨k.os.trans h.os,k.tape.trans h.tape,k.output.trans h.output,Nat.le_trans h.size k.size,fun i hl hi=>(k.block i (Nat.lt_of_lt_of_le hl h.size) hi).trans (h.block i hl hi)⟩
theorem Bl.set{a w:World}{Bs:List Nat}(h:Bl a w Bs)(p:Addr)(hp:p.block∈Bs)(v:Value):Bl a (w.setCell p v) Bs:=
 ⟨h.os,h.tape,h.output,by simp[World.setCell];exact h.size,fun k hl hk=>by rw[Below.heap_setCell _ _ _ _ (by rintro rfl;exact hk hp)];exact h.block k hl hk⟩
theorem Bl.alloc{a w:World}{Bs:List Nat}(h:Bl a w Bs)(o:Obj):Bl a (w.alloc o) Bs:=
 ⟨h.os,h.tape,h.output,by simp;have:=h.size;omega,fun k hl hk=>by rw[Below.heap_alloc _ _ _ (by have:=h.size;omega)];exact h.block k hl hk⟩
theorem Bl.mono{a w:World}{Bs Cs:List Nat}(h:Bl a w Bs)(hs:∀k∈Bs,k∈Cs):Bl a w Cs:=⟨h.os,h.tape,h.output,h.size,fun k hl hk=>h.block k hl (fun hk'=>hk (hs k hk'))⟩
theorem Bl.drew{a w:World}{Bs:List Nat}(h:Bl a w Bs):Bl a w.drew Bs:=⟨h.os,h.tape,h.output,h.size,h.block⟩
theorem Bl.drewN{a w:World}{Bs:List Nat}{n:Nat}(h:Bl a w Bs):Bl a (w.drewN n) Bs:=⟨h.os,h.tape,h.output,h.size,h.block⟩
theorem Bl.cell{w w':World}{Bs:List Nat}(h:Bl w w' Bs){p:Addr}{v:Value}(hp:p.block ∉ Bs)(hv:w.cell? p=some v):w'.cell? p=some v:=(World.cell?_of_block (h.block p.block (World.block_lt_of_cell? w p hv) hp)).trans hv
theorem Bl.frozen{w w':World}{Bs:List Nat}(h:Bl w w' Bs){p:Addr}{v:Value}{b:Bool}(hp:p.block ∉ Bs)(hv:w.cell? p=some v)(hf:w.frozen? p=b):w'.frozen? p=b:=(World.frozen?_of_block (h.block p.block (World.block_lt_of_cell? w p hv) hp)).trans hf
theorem Bl.below{w w':World}{Bs:List Nat}{C:Nat}(h:Bl w w' Bs)(hC:∀k∈Bs,C≤k)(hl:C≤w.heap.size):Below C w w':=⟨h.os,h.tape,h.output,h.size,fun k hk=>h.block k (by omega) (fun hk'=>by have:=hC k hk';omega)⟩
structure Ways(w:World)(A LA sz:Nat)(L:List (Nat×Nat)):Prop where
 a0:w.cell? ⟨A,0,none⟩=some (.slice (some ⟨LA,0,none⟩) sz sz)
 a1:w.cell? ⟨A,1,none⟩=some (.int .i64 L.length)
 f1:w.frozen? ⟨A,1,none⟩=false
 el:∀i x,L[i]?=some x→w.cell? ⟨LA,i*2,none⟩=some (.int .i64 x.1)∧w.cell? ⟨LA,i*2+1,none⟩=some (.int .i64 x.2)
 room:∀i,i<sz*2→(∃u,w.cell? ⟨LA,i,none⟩=some u)∧w.frozen? ⟨LA,i,none⟩=false
theorem Ways.bl {w w' : World} {A LA sz : Nat} {L : List (Nat × Nat)} {Bs : List Nat} (h : Ways w A LA sz L) (k : Bl w w' Bs) (hA : A ∉ Bs) (hL : LA ∉ Bs) : Ways w' A LA sz L :=
  ⟨k.cell (by exact hA) h.a0, k.cell (by exact hA) h.a1, k.frozen (by exact hA) h.a1 h.f1, fun i x hx => ⟨k.cell (by exact hL) (h.el i x hx).1, k.cell (by exact hL) (h.el i x hx).2⟩,
   fun i hi => by obtain ⟨⟨u, hu⟩, hf⟩ := h.room i hi; exact ⟨⟨u, k.cell (by exact hL) hu⟩, k.frozen (by exact hL) hu hf⟩⟩
theorem Ways.alloc{w:World}{A LA sz:Nat}{L:List (Nat×Nat)}(h:Ways w A LA sz L)(o:Obj):Ways (w.alloc o) A LA sz L:=h.bl ((Bl.refl w []).alloc o) (by simp) (by simp)
theorem Ways.drew{w:World}{A LA sz:Nat}{L:List (Nat×Nat)}(h:Ways w A LA sz L):Ways w.drew A LA sz L:=⟨h.a0,h.a1,h.f1,h.el,h.room⟩
theorem Ways.drewN{w:World}{A LA sz n:Nat}{L:List (Nat×Nat)}(h:Ways w A LA sz L):Ways (w.drewN n) A LA sz L:=⟨h.a0,h.a1,h.f1,h.el,h.room⟩
theorem Ways.add{w:World}{A LA sz:Nat}{L:List (Nat×Nat)}(h:Ways w A LA sz L)(hAL:A≠LA)(hn:L.length<sz)(p i:Nat)(n:Int)(hni:n=(L.length+1:Nat)):
  Ways (((w.setCell ⟨LA,L.length*2,none⟩ (.int .i64 p)).setCell ⟨LA,L.length*2+1,none⟩ (.int .i64 i)).setCell ⟨A,1,none⟩ (.int .i64 n)) A LA sz (L++ [(p,i)]):=by
 subst hni
 have other:∀(U:World) (b x y:Nat) (v:Value),x≠y→(U.setCell ⟨b,x,none⟩ v).cell? ⟨b,y,none⟩=U.cell? ⟨b,y,none⟩:=fun U b x y v hxy=>World.cell?_setCell_other _ _ _ _ (by rintro e;cases e;exact hxy rfl)
 have far:∀(U:World) (b c x y:Nat) (v:Value),b≠c→(U.setCell ⟨b,x,none⟩ v).cell? ⟨c,y,none⟩=U.cell? ⟨c,y,none⟩:=fun U b c x y v hxy=>World.cell?_setCell_far _ _ _ _ hxy
 obtain⟨u0,hu0⟩:=(h.room (L.length*2) (by omega)).1
 obtain⟨u1,hu1⟩:=(h.room (L.length*2+1) (by omega)).1
 have c0:((w.setCell ⟨LA,L.length*2,none⟩ (.int .i64 p)).setCell ⟨LA,L.length*2+1,none⟩ (.int .i64 i)).cell? ⟨LA,L.length*2,none⟩=some (.int .i64 p):=by
  rw[other _ _ _ _ _ (by omega)]
  exact World.cell?_setCell_same _ _ _ hu0
 have c1:((w.setCell ⟨LA,L.length*2,none⟩ (.int .i64 p)).setCell ⟨LA,L.length*2+1,none⟩ (.int .i64 i)).cell? ⟨LA,L.length*2+1,none⟩=some (.int .i64 i):=World.cell?_setCell_same _ _ _ (by rw[other _ _ _ _ _ (by omega)];exact hu1)
 refine⟨?_,?_,by simpa using h.f1,fun k x hx=>?_,fun k hk=>?_⟩
 ·rw[other _ _ _ _ _ (by omega),far _ _ _ _ _ _ (Ne.symm hAL),far _ _ _ _ _ _ (Ne.symm hAL)];exact h.a0
 ·rw[List.length_append,List.length_singleton]
  exact World.cell?_setCell_same _ _ _ (by rw[far _ _ _ _ _ _ (Ne.symm hAL),far _ _ _ _ _ _ (Ne.symm hAL)];exact h.a1)
 ·rw[far _ _ _ _ _ _ hAL,far _ _ _ _ _ _ hAL]
  rcases Nat.lt_or_ge k L.length with hkl|hkl
  ·rw[List.getElem?_append_left hkl]at hx
   obtain⟨e1,e2⟩:=h.el k x hx
   refine⟨?_,?_⟩
   ·rw[other _ _ _ _ _ (by omega),other _ _ _ _ _ (by omega)];exact e1
   ·rw[other _ _ _ _ _ (by omega),other _ _ _ _ _ (by omega)];exact e2
  ·rw[List.getElem?_append_right hkl]at hx
   have hk0:k=L.length:=by
    have:=(List.getElem?_eq_some_iff.1 hx).1
    simp at this
    omega
   subst hk0
   simp at hx
   subst hx
   exact⟨c0,c1⟩
 ·obtain⟨⟨u,hu⟩,hf⟩:=h.room k hk
  refine⟨?_,by simpa using hf⟩
  rw[far _ _ _ _ _ _ hAL]
  by_cases e1:k=L.length*2+1
  ·subst e1;exact⟨_,c1⟩
  ·by_cases e0:k=L.length*2
   ·subst e0;exact⟨_,c0⟩
   ·exact⟨u,by rw[other _ _ _ _ _ (by omega),other _ _ _ _ _ (by omega)];exact hu⟩
theorem Ways.clear{w:World}{A LA sz:Nat}{L:List (Nat×Nat)}(h:Ways w A LA sz L)(hAL:A≠LA):Ways (w.setCell ⟨A,1,none⟩ (.int .i64 0)) A LA sz []:=by
 have far:∀(U:World) (b c x y:Nat) (v:Value),b≠c→(U.setCell ⟨b,x,none⟩ v).cell? ⟨c,y,none⟩=U.cell? ⟨c,y,none⟩:=fun U b c x y v hxy=>World.cell?_setCell_far _ _ _ _ hxy
 refine⟨by rw[World.cell?_setCell_other _ _ _ _ (by simp)];exact h.a0,by exact World.cell?_setCell_same _ _ _ h.a1,by simpa using h.f1,fun i x hx=>by simp at hx,fun k hk=>?_⟩
 obtain⟨⟨u,hu⟩,hf⟩:=h.room k hk
 exact⟨⟨u,by rw[far _ _ _ _ _ _ hAL];exact hu⟩,by simpa using hf⟩
set_option maxHeartbeats 800000 in
theorem wput_any(A LA sz:Nat)(L:List (Nat×Nat))(p i:Nat)(w:World)(h:Ways w A LA sz L)(hAL:A≠LA)(hn:L.length<sz)(hsz:sz≤1000):
  Calls Tryd.prog 58 #[.pointer (some ⟨A,0,none⟩),.agg #[.int .i64 p,.int .i64 i]] w fun e w'=>e= .returned (.tuple #[])∧Ways w' A LA sz (L++ [(p,i)])∧Bl w w' [A,LA]:=by
 have a0:=h.a0
 have a1:=h.a1
 have f1:=h.f1
 obtain⟨⟨u0,hu0⟩,g0⟩:=h.room (L.length*2) (by omega)
 obtain⟨⟨u1,hu1⟩,g1⟩:=h.room (L.length*2+1) (by omega)
 have hn0:(0:Int)≤(L.length:Int):=by omega
 have hn1:(L.length:Int)<(sz:Int):=by omega
 have H:=hd h
 clear h
 go_enter Tryd.func58,Tryd.ntmps58
 go_wp2
 have HW:=hd (H.out.alloc (.cells #[.int .i64 p,.int .i64 i] 150))
 have HB:=hd ((Bl.refl w [A,LA]).alloc (.cells #[.int .i64 p,.int .i64 i] 150))
 have hT:(w.alloc (.cells #[.int .i64 p,.int .i64 i] 150)).cell? ⟨w.heap.size,0,none⟩=some (.int .i64 p)∧(w.alloc (.cells #[.int .i64 p,.int .i64 i] 150)).cell? ⟨w.heap.size,1,none⟩=some (.int .i64 i):=⟨by simp,by simp⟩
 have hlA:=World.block_lt_of_cell? w _ a0
 have hlL:=World.block_lt_of_cell? w _ hu0
 generalize w.alloc (.cells #[.int .i64 p,.int .i64 i] 150)=W at HW HB hT ⊢
 generalize w.heap.size=T at hT hlA hlL ⊢
 obtain⟨t0,t1⟩:=hT
 clear a0 a1 f1 hu0 g0 hu1 g1
 have a0:=HW.out.a0
 have a1:=HW.out.a1
 have f1:=HW.out.f1
 obtain⟨⟨u0,hu0⟩,g0⟩:=HW.out.room (L.length*2) (by omega)
 obtain⟨⟨u1,hu1⟩,g1⟩:=HW.out.room (L.length*2+1) (by omega)
 go_quiet (fail)
 go_wp2
 go_region
 go_wp2
 go_end0
 exact⟨rfl,HW.out.drewN.add hAL hn p i _ (by omega),((HB.out.drewN.set _ (by simp) _).set _ (by simp) _).set _ (by simp) _⟩
structure Cfg where
 S:Nat
 SB:Nat
 P:Nat
 o:Nat
 G:Nat
 cap:Nat
 e:Nat
 ln:ByteArray
 D:List Stp
def StepAt(w:World)(G q:Nat):Stp→Prop
 | .done=>w.cell? ⟨G,q*14,none⟩=some (.int .i64 0)
 | .one f n=>w.cell? ⟨G,q*14,none⟩=some (.int .i64 1)∧w.cell? ⟨G,q*14+10,none⟩=some (.int .i64 n)∧SetIs w G (q*14+1) f
 | .beg n=>w.cell? ⟨G,q*14,none⟩=some (.int .i64 2)∧w.cell? ⟨G,q*14+10,none⟩=some (.int .i64 n)
 | .fin n=>w.cell? ⟨G,q*14,none⟩=some (.int .i64 3)∧w.cell? ⟨G,q*14+10,none⟩=some (.int .i64 n)
 | .fork n o=>w.cell? ⟨G,q*14,none⟩=some (.int .i64 4)∧w.cell? ⟨G,q*14+10,none⟩=some (.int .i64 n)∧w.cell? ⟨G,q*14+11,none⟩=some (.int .i64 o)
theorem StepAt.bl{w w':World}{G q:Nat}{st:Stp}{Bs:List Nat}(h:StepAt w G q st)(k:Bl w w' Bs)(hG:G ∉ Bs):StepAt w' G q st:=by
 cases st with
 |done=>exact k.cell (by exact hG) h
 |one f n=>exact⟨k.cell (by exact hG) h.1,k.cell (by exact hG) h.2.1,fun i hi=>by obtain⟨z,hz,hw⟩:=h.2.2 i hi;exact⟨z,k.cell (by exact hG) hz,hw⟩⟩
 |beg n=>exact⟨k.cell (by exact hG) h.1,k.cell (by exact hG) h.2⟩
 |fin n=>exact⟨k.cell (by exact hG) h.1,k.cell (by exact hG) h.2⟩
 |fork n o=>exact⟨k.cell (by exact hG) h.1,k.cell (by exact hG) h.2.1,k.cell (by exact hG) h.2.2⟩
structure Sh(w:World)(Γ:Cfg)(t:Nat)(sn:List Nat)(fd:Bool)(a b:Nat):Prop where
 s0:w.cell? ⟨Γ.S,0,none⟩=some (.pointer (some ⟨Γ.P,Γ.o,none⟩))
 s1:w.cell? ⟨Γ.S,1,none⟩=some (.string Γ.ln)
 s2:w.cell? ⟨Γ.S,2,none⟩=some (.int .i64 t)
 s3:w.cell? ⟨Γ.S,3,none⟩=some (.slice (some ⟨Γ.SB,0,none⟩) Γ.D.length Γ.D.length)
 s4:w.cell? ⟨Γ.S,4,none⟩=some (.bool fd)
 s5:w.cell? ⟨Γ.S,5,none⟩=some (.int .i64 a)
 s6:w.cell? ⟨Γ.S,6,none⟩=some (.int .i64 b)
 f2:w.frozen? ⟨Γ.S,2,none⟩=false
 f4:w.frozen? ⟨Γ.S,4,none⟩=false
 f5:w.frozen? ⟨Γ.S,5,none⟩=false
 f6:w.frozen? ⟨Γ.S,6,none⟩=false
 snl:sn.length=Γ.D.length
 sn:∀(i v:Nat),sn[i]?=some v→w.cell? ⟨Γ.SB,i,none⟩=some (.int .i64 v)∧w.frozen? ⟨Γ.SB,i,none⟩=false
 p0:w.cell? ⟨Γ.P,Γ.o,none⟩=some (.slice (some ⟨Γ.G,0,none⟩) Γ.D.length Γ.cap)
 p1:w.cell? ⟨Γ.P,Γ.o+1,none⟩=some (.int .i64 Γ.e)
 st:∀q st,Γ.D[q]?=some st→StepAt w Γ.G q st
theorem Sh.drew{w:World}{Γ:Cfg}{t:Nat}{sn:List Nat}{fd:Bool}{a b:Nat}(h:Sh w Γ t sn fd a b):Sh w.drew Γ t sn fd a b:=⟨h.s0,h.s1,h.s2,h.s3,h.s4,h.s5,h.s6,h.f2,h.f4,h.f5,h.f6,h.snl,h.sn,h.p0,h.p1,fun q st hq=>(h.st q st hq).bl (Bl.refl _ []).drew (by simp)⟩
theorem Sh.drewN{w:World}{Γ:Cfg}{t n:Nat}{sn:List Nat}{fd:Bool}{a b:Nat}(h:Sh w Γ t sn fd a b):Sh (w.drewN n) Γ t sn fd a b:=⟨h.s0,h.s1,h.s2,h.s3,h.s4,h.s5,h.s6,h.f2,h.f4,h.f5,h.f6,h.snl,h.sn,h.p0,h.p1,fun q st hq=>(h.st q st hq).bl (Bl.refl _ []).drewN (by simp)⟩
theorem Sh.bl {w w' : World} {Γ : Cfg} {t : Nat} {sn : List Nat} {fd : Bool} {a b : Nat} {Bs : List Nat} (h : Sh w Γ t sn fd a b) (k : Bl w w' Bs) (h1 : Γ.S ∉ Bs) (h2 : Γ.SB ∉ Bs) (h3 : Γ.P ∉ Bs) (h4 : Γ.G ∉ Bs) : Sh w' Γ t sn fd a b :=
  ⟨k.cell (by exact h1) h.s0, k.cell (by exact h1) h.s1, k.cell (by exact h1) h.s2, k.cell (by exact h1) h.s3, k.cell (by exact h1) h.s4, k.cell (by exact h1) h.s5, k.cell (by exact h1) h.s6, k.frozen (by exact h1) h.s2 h.f2, k.frozen (by exact h1) h.s4 h.f4, k.frozen (by exact h1) h.s5 h.f5, k.frozen (by exact h1) h.s6 h.f6, h.snl,
   fun i v hv => ⟨k.cell (by exact h2) (h.sn i v hv).1, k.frozen (by exact h2) (h.sn i v hv).1 (h.sn i v hv).2⟩, k.cell (by exact h3) h.p0, k.cell (by exact h3) h.p1, fun q st hq => (h.st q st hq).bl k (by exact h4)⟩
structure Apt(Γ:Cfg):Prop where
 n1:Γ.S≠Γ.SB
 n2:Γ.P≠Γ.S
 n3:Γ.P≠Γ.SB
 n4:Γ.G≠Γ.S
 n5:Γ.G≠Γ.SB
theorem ne_set{w:World}{b x y:Nat}{v:Value}(h:x≠y):(w.setCell ⟨b,x,none⟩ v).cell? ⟨b,y,none⟩=w.cell? ⟨b,y,none⟩:=World.cell?_setCell_other _ _ _ _ (by rintro e;cases e;exact h rfl)
theorem Sh.mark{w:World}{Γ:Cfg}{t q u:Nat}{sn:List Nat}{fd:Bool}{a b:Nat}(h:Sh w Γ t sn fd a b)(hA:Apt Γ)(hq:q<sn.length):Sh (w.setCell ⟨Γ.SB,q,none⟩ (.int .i64 u)) Γ t (sn.set q u) fd a b:=by
 have k:=(Bl.refl w [Γ.SB]).set ⟨Γ.SB,q,none⟩ (by simp) (.int .i64 u)
 have n1:=hA.n1
 have n3:=hA.n3
 have n5:=hA.n5
 refine⟨k.cell (by simpa using n1) h.s0,k.cell (by simpa using n1) h.s1,k.cell (by simpa using n1) h.s2,k.cell (by simpa using n1) h.s3,k.cell (by simpa using n1) h.s4,k.cell (by simpa using n1) h.s5,k.cell (by simpa using n1) h.s6,k.frozen (by simpa using n1) h.s2 h.f2,k.frozen (by simpa using n1) h.s4 h.f4,k.frozen (by simpa using n1) h.s5 h.f5,k.frozen (by simpa using n1) h.s6 h.f6,by simpa using h.snl,
  fun i v hv=>?_,k.cell (by simpa using n3) h.p0,k.cell (by simpa using n3) h.p1,fun q st hq=>(h.st q st hq).bl k (by simpa using n5)⟩
 by_cases e:q=i
 ·subst e
  rw[List.getElem?_set_self hq]at hv
  cases hv
  obtain⟨c1,c2⟩:=h.sn q sn[q] (List.getElem?_eq_getElem hq)
  exact⟨World.cell?_setCell_same _ _ _ c1,by simpa using c2⟩
 ·rw[List.getElem?_set_ne e]at hv
  obtain⟨c1,c2⟩:=h.sn i v hv
  exact⟨(ne_set e).trans c1,by simpa using c2⟩
theorem Sh.found{w:World}{Γ:Cfg}{t i:Nat}{sn:List Nat}{fd:Bool}{a b:Nat}(h:Sh w Γ t sn fd a b)(hA:Apt Γ):
  Sh (((w.setCell ⟨Γ.S,4,none⟩ (.bool true)).setCell ⟨Γ.S,5,none⟩ (.int .i64 i)).setCell ⟨Γ.S,6,none⟩ (.int .i64 t)) Γ t sn true i t:=by
 have k:=(((Bl.refl w [Γ.S]).set ⟨Γ.S,4,none⟩ (by simp) (.bool true)).set ⟨Γ.S,5,none⟩ (by simp) (.int .i64 i)).set ⟨Γ.S,6,none⟩ (by simp) (.int .i64 t)
 have n1:=hA.n1
 have n2:=hA.n2
 have n4:=hA.n4
 have cl:∀j,j≠4→j≠5→j≠6→(((w.setCell ⟨Γ.S,4,none⟩ (.bool true)).setCell ⟨Γ.S,5,none⟩ (.int .i64 i)).setCell ⟨Γ.S,6,none⟩ (.int .i64 t)).cell? ⟨Γ.S,j,none⟩=w.cell? ⟨Γ.S,j,none⟩:=fun j h4 h5 h6=>by
  rw[ne_set (Ne.symm h6),ne_set (Ne.symm h5),ne_set (Ne.symm h4)]
 refine⟨(cl 0 (by omega) (by omega) (by omega)).trans h.s0,(cl 1 (by omega) (by omega) (by omega)).trans h.s1,(cl 2 (by omega) (by omega) (by omega)).trans h.s2,(cl 3 (by omega) (by omega) (by omega)).trans h.s3,?_,?_,?_,by simpa using h.f2,by simpa using h.f4,by simpa using h.f5,by simpa using h.f6,h.snl,
  fun j v hv=>⟨k.cell (by simpa using Ne.symm n1) (h.sn j v hv).1,k.frozen (by simpa using Ne.symm n1) (h.sn j v hv).1 (h.sn j v hv).2⟩,k.cell (by simpa using n2) h.p0,k.cell (by simpa using n2) h.p1,fun q st hq=>(h.st q st hq).bl k (by simpa using n4)⟩
 ·rw[ne_set (by omega),ne_set (by omega)]
  exact World.cell?_setCell_same _ _ _ h.s4
 ·rw[ne_set (by omega)]
  exact World.cell?_setCell_same _ _ _ (by rw[ne_set (by omega)];exact h.s5)
 ·exact World.cell?_setCell_same _ _ _ (by rw[ne_set (by omega),ne_set (by omega)];exact h.s6)
theorem Sh.next{w:World}{Γ:Cfg}{t u:Nat}{sn:List Nat}{fd:Bool}{a b:Nat}(h:Sh w Γ t sn fd a b)(hA:Apt Γ):Sh (w.setCell ⟨Γ.S,2,none⟩ (.int .i64 u)) Γ u sn fd a b:=by
 have k:=(Bl.refl w [Γ.S]).set ⟨Γ.S,2,none⟩ (by simp) (.int .i64 u)
 have n1:=hA.n1
 have n2:=hA.n2
 have n4:=hA.n4
 exact⟨(ne_set (by omega)).trans h.s0,(ne_set (by omega)).trans h.s1,World.cell?_setCell_same _ _ _ h.s2,(ne_set (by omega)).trans h.s3,(ne_set (by omega)).trans h.s4,(ne_set (by omega)).trans h.s5,(ne_set (by omega)).trans h.s6,by simpa using h.f2,by simpa using h.f4,by simpa using h.f5,by simpa using h.f6,h.snl,
  fun j v hv=>⟨k.cell (by simpa using Ne.symm n1) (h.sn j v hv).1,k.frozen (by simpa using Ne.symm n1) (h.sn j v hv).1 (h.sn j v hv).2⟩,k.cell (by simpa using n2) h.p0,k.cell (by simpa using n2) h.p1,fun q st hq=>(h.st q st hq).bl k (by simpa using n4)⟩
end Go.Proofs.YtldiemjlpnachaaDoor

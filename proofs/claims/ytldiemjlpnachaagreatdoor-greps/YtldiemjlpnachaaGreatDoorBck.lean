import Derived.Test.YtldiemjlpnachaaGreatDoorMks
import Derived.Test.YtldiemjlpnachaaGreatDoorBks
import Derived.Laws.BitsAllLaws
import Derived.Deep.QuietTactic
import Derived.BigQuiet
import Derived.Deep.LoopGhost
set_option maxHeartbeats 12800000
set_option maxRecDepth 100000
namespace Go.Proofs.YtldiemjlpnachaaGreatDoor
open Go.RowKit
def bf(f:Nat->Bool):Nat->Nat
 |0=>0
 |n+1=>bf f n|||(if f n=true then 2^n else 0)
theorem bf_bit(f:Nat->Bool)(i:Nat):∀n,(bf f n).testBit i=(decide (i<n)&&f i)
 |0=>by simp[bf]
 |n+1=>by
  rw[bf,Nat.testBit_or,bf_bit f i n]
  by_cases h:f n=true
  ·rw[if_pos h,Nat.testBit_two_pow]
   by_cases e:n=i
   ·subst e;simp[h]
   ·by_cases hlt:i<n
    ·simp[hlt,e,show i<n+1 by omega]
    ·simp[hlt,e,show ¬i<n+1 by omega]
  ·rw[if_neg h,Nat.zero_testBit,Bool.or_false]
   by_cases e:n=i
   ·subst e;simp[h]
   ·by_cases hlt:i<n
    ·simp[hlt,show i<n+1 by omega]
    ·simp[hlt,show ¬i<n+1 by omega]
theorem bf_lt(f:Nat->Bool)(n:Nat):bf f n<2^n:=by
 apply Nat.lt_pow_two_of_testBit
 intro i hi
 rw[bf_bit]
 simp;omega
theorem p25{z:Nat}(h:z<2^25):z<4294967296:=Nat.lt_of_lt_of_le h (by decide)
structure Cg where
 S:Nat
 PC:Nat
 o:Nat
 G:Nat
 cap:Nat
 LB:Nat
 FB:Nat
 MB:Nat
 ln:ByteArray
 D:List Sd
 e:Nat
 k:Nat
 K:Nat
 room:Nat
 lv:Nat
 P:Prt
 b1:Nat
def fi(D:List Sd)(p:Nat):Nat:=levs ((D.map Prod.snd).take p)
def SdAt(w:World)(G q fi:Nat)(x:Sd):Prop:=∃c,SdOk c fi x/\∀j v,c[j]?=some v->w.cell? ⟨G,q*14+j,none⟩=some v
structure Rdo(w:World)(Δ:Cg):Prop where
 s0:w.cell? ⟨Δ.S,0,none⟩=some (.pointer (some ⟨Δ.PC,Δ.o,none⟩))
 s1:w.cell? ⟨Δ.S,1,none⟩=some (.string Δ.ln)
 s2:∃c,w.cell? ⟨Δ.S,2,none⟩=some (.slice (some ⟨Δ.LB,0,none⟩) Δ.P.count c)
 num:∀a b,a<=24->b<=24->w.cell? ⟨Δ.S,3+a*25+b,none⟩=some (.int .i64 (Δ.P.num a b))
 s628:∃c,w.cell? ⟨Δ.S,628,none⟩=some (.slice (some ⟨Δ.FB,0,none⟩) Δ.D.length c)
 s629:w.cell? ⟨Δ.S,629,none⟩=some (.int .i64 Δ.K)
 s630:w.cell? ⟨Δ.S,630,none⟩=some (.slice (some ⟨Δ.MB,0,none⟩) Δ.room Δ.room)
 p0:w.cell? ⟨Δ.PC,Δ.o,none⟩=some (.slice (some ⟨Δ.G,0,none⟩) Δ.D.length Δ.cap)
 p1:w.cell? ⟨Δ.PC,Δ.o+1,none⟩=some (.int .i64 Δ.e)
 p2:w.cell? ⟨Δ.PC,Δ.o+2,none⟩=some (.int .i64 Δ.k)
 p3:w.cell? ⟨Δ.PC,Δ.o+3,none⟩=some (.int .i64 Δ.lv)
 st:∀(q:Nat) x,Δ.D[q]?=some x->SdAt w Δ.G q (fi Δ.D q) x
 ft:∀(q:Nat) f n d,Δ.D[q]?=some (.one f n,d)->w.cell? ⟨Δ.FB,q,none⟩=some (.int .u32 (bf (fun i=>f (ch Δ.ln.data.toList i)) Δ.ln.size))
 pl:∀j,j<Δ.P.count->w.cell? ⟨Δ.LB,j*2,none⟩=some (.int .i64 (Δ.P.sz j))/\w.cell? ⟨Δ.LB,j*2+1,none⟩=some (.int .u32 (bf (Δ.P.at_ j) 25))
structure Blk(Δ:Cg):Prop where
 bS:Δ.S<Δ.b1
 bP:Δ.PC<Δ.b1
 bG:Δ.G<Δ.b1
 bL:Δ.LB<Δ.b1
 bF:Δ.FB<Δ.b1
 bM:Δ.MB<Δ.b1
 nP:Δ.PC≠Δ.S
 nG:Δ.G≠Δ.S
 nL:Δ.LB≠Δ.S
 nF:Δ.FB≠Δ.S
 nM:Δ.MB≠Δ.S
 mP:Δ.PC≠Δ.MB
 mG:Δ.G≠Δ.MB
 mL:Δ.LB≠Δ.MB
 mF:Δ.FB≠Δ.MB
structure Kp(w w':World)(Δ:Cg):Prop where
 os:w'.os=w.os
 tape:w'.tape=w.tape
 output:w'.output=w.output
 size:w.heap.size<=w'.heap.size
 block:∀k,k<Δ.b1->k≠Δ.S->k≠Δ.MB->w'.heap[k]?=w.heap[k]?
 cell:∀i,i<631->w'.cell? ⟨Δ.S,i,none⟩=w.cell? ⟨Δ.S,i,none⟩
theorem Kp.refl(w:World)(Δ:Cg):Kp w w Δ:=⟨rfl,rfl,rfl,Nat.le_refl _,fun _ _ _ _=>rfl,fun _ _=>rfl⟩
theorem Kp.trans{a b c:World}{Δ:Cg}(h:Kp a b Δ)(k:Kp b c Δ):Kp a c Δ:=⟨k.os.trans h.os,k.tape.trans h.tape,k.output.trans h.output,Nat.le_trans h.size k.size,fun i h1 h2 h3=>(k.block i h1 h2 h3).trans (h.block i h1 h2 h3),fun i hi=>(k.cell i hi).trans (h.cell i hi)⟩
theorem Kp.alloc{a w:World}{Δ:Cg}(h:Kp a w Δ)(hb:Blk Δ)(hs:Δ.b1<=a.heap.size)(o:Obj):Kp a (w.alloc o) Δ:=
 ⟨h.os,h.tape,h.output,by simp;have:=h.size;omega,fun k h1 h2 h3=>by rw[Below.heap_alloc _ _ _ (by have:=h.size;omega)];exact h.block k h1 h2 h3,
  fun i hi=>by rw[World.cell?_alloc_lt _ _ _ (by have:=h.size;have:=hb.bS;show Δ.S<_;omega)];exact h.cell i hi⟩
theorem Kp.drewN{a w:World}{Δ:Cg}{n:Nat}(h:Kp a w Δ):Kp a (w.drewN n) Δ:=⟨h.os,h.tape,h.output,h.size,h.block,h.cell⟩
theorem Kp.drew{a w:World}{Δ:Cg}(h:Kp a w Δ):Kp a w.drew Δ:=⟨h.os,h.tape,h.output,h.size,h.block,h.cell⟩
theorem Kp.set{a w:World}{Δ:Cg}(h:Kp a w Δ)(hb:Blk Δ)(b i:Nat)(hi:Δ.b1<=b\/b=Δ.MB)(v:Value):Kp a (w.setCell ⟨b,i,none⟩ v) Δ:=by
 have hS:=hb.bS
 have nM:=hb.nM
 have hbS:b≠Δ.S:=by rcases hi with h|h<;>omega
 refine⟨h.os,h.tape,h.output,by simp[World.setCell];exact h.size,fun k h1 h2 h3=>?_,fun j hj=>?_⟩
 ·rw[Below.heap_setCell _ _ _ _ (by intro e;have e':k=b:=e;rcases hi with hi|hi<;>omega)]
  exact h.block k h1 h2 h3
 ·rw[World.cell?_setCell_far _ _ _ _ (by exact hbS)]
  exact h.cell j hj
theorem Kp.own{a w:World}{Δ:Cg}(h:Kp a w Δ)(i:Nat)(hi:631<=i)(v:Value):Kp a (w.setCell ⟨Δ.S,i,none⟩ v) Δ:=
 ⟨h.os,h.tape,h.output,by simp[World.setCell];exact h.size,fun k h1 h2 h3=>by rw[Below.heap_setCell _ _ _ _ h2];exact h.block k h1 h2 h3,
  fun j hj=>by rw[World.cell?_setCell_other _ _ _ _ (by rintro e;cases e;omega)];exact h.cell j hj⟩
theorem Kp.fcell{w w':World}{Δ:Cg}(h:Kp w w' Δ){p:Addr}{v:Value}(h1:p.block<Δ.b1)(h2:p.block≠Δ.S)(h3:p.block≠Δ.MB)(hv:w.cell? p=some v):w'.cell? p=some v:=(World.cell?_of_block (h.block p.block h1 h2 h3)).trans hv
theorem Rdo.kp{w w':World}{Δ:Cg}(h:Rdo w Δ)(hb:Blk Δ)(k:Kp w w' Δ):Rdo w' Δ:=by
 obtain⟨c2,e2⟩:=h.s2
 obtain⟨c6,e6⟩:=h.s628
 refine⟨(k.cell 0 (by omega)).trans h.s0,(k.cell 1 (by omega)).trans h.s1,⟨c2,(k.cell 2 (by omega)).trans e2⟩,fun a b ha hb'=>(k.cell _ (by omega)).trans (h.num a b ha hb'),⟨c6,(k.cell 628 (by omega)).trans e6⟩,(k.cell 629 (by omega)).trans h.s629,(k.cell 630 (by omega)).trans h.s630,
  k.fcell hb.bP hb.nP hb.mP h.p0,k.fcell hb.bP hb.nP hb.mP h.p1,k.fcell hb.bP hb.nP hb.mP h.p2,k.fcell hb.bP hb.nP hb.mP h.p3,fun q x hq=>?_,fun q f n d hq=>k.fcell hb.bF hb.nF hb.mF (h.ft q f n d hq),fun j hj=>⟨k.fcell hb.bL hb.nL hb.mL (h.pl j hj).1,k.fcell hb.bL hb.nL hb.mL (h.pl j hj).2⟩⟩
 obtain⟨c,h1,h2⟩:=h.st q x hq
 exact⟨c,h1,fun j v hv=>k.fcell hb.bG hb.nG hb.mG (h2 j v hv)⟩
structure Ss where
 X:Hd->Option (Nat×Nat)
 rc:Hd->Nat->Nat
 tp:Hd->Int
 wt:Hd->Bool
 Q:List Hd
 fd:Bool
 to_:Nat
def Vh(Δ:Cg)(h:Hd):Prop:=h.1<Δ.K/\h.2<Δ.K/\(Δ.k=1->h.2=0)
def ix(Δ:Cg)(h:Hd):Nat:=if Δ.k=1 then h.1 else h.1*Δ.K+h.2
def pX(x:Option (Nat×Nat)):Value:= .pointer (x.map fun br=>⟨br.1,0,none⟩)
structure SetM(w:World)(Δ:Cg)(σ:Ss)(h:Hd)(b r:Nat):Prop where
 vh:Vh Δ h
 bb:Δ.b1<=b/\b<w.heap.size
 br:Δ.b1<=r/\r<w.heap.size
 c0:w.cell? ⟨b,0,none⟩=some (.int .i64 h.1)
 c1:w.cell? ⟨b,1,none⟩=some (.int .i64 h.2)
 c2:w.cell? ⟨b,2,none⟩=some (.slice (some ⟨r,0,none⟩) Δ.lv Δ.lv)
 c3:w.cell? ⟨b,3,none⟩=some (.int .i64 (σ.tp h))
 c4:w.cell? ⟨b,4,none⟩=some (.bool (σ.wt h))
 fb:∀i,w.frozen? ⟨b,i,none⟩=false
 rc:∀m,m<Δ.lv->w.cell? ⟨r,m,none⟩=some (.int .u32 (σ.rc h m))
 fr:∀i,w.frozen? ⟨r,i,none⟩=false
 rl:∀m,σ.rc h m<2^25
structure Mut(w:World)(Δ:Cg)(σ:Ss):Prop where
 sz:Δ.b1<=w.heap.size
 mb:∀h,Vh Δ h->w.cell? ⟨Δ.MB,ix Δ h,none⟩=some (pX (σ.X h))
 mf:∀i,w.frozen? ⟨Δ.MB,i,none⟩=false
 st:∀h b r,σ.X h=some (b,r)->SetM w Δ σ h b r
 inj:∀h h' b r b' r',σ.X h=some (b,r)->σ.X h'=some (b',r')->(b=b'->h=h')/\(r=r'->h=h')/\b≠r'
 wq:∃v,w.cell? ⟨Δ.S,631,none⟩=some v/\w.ownsRow Δ.b1 167 1 v σ.Q.length (σ.Q.map fun h=>pX (σ.X h))/\∀g,v.ownBlock=some g->∀h b r,σ.X h=some (b,r)->g≠b/\g≠r
 qx:∀h∈σ.Q,∃br,σ.X h=some br
 c632:w.cell? ⟨Δ.S,632,none⟩=some (.bool σ.fd)
 c633:w.cell? ⟨Δ.S,633,none⟩=some (.int .i64 σ.to_)
 fS:∀i,631<=i->w.frozen? ⟨Δ.S,i,none⟩=false
theorem SetM.far{w w':World}{Δ:Cg}{σ σ':Ss}{h:Hd}{b r:Nat}(s:SetM w Δ σ h b r)(hs:w.heap.size<=w'.heap.size)(e1:w'.heap[b]?=w.heap[b]?)(e2:w'.heap[r]?=w.heap[r]?)(er:σ'.rc h=σ.rc h)(et:σ'.tp h=σ.tp h)(ew:σ'.wt h=σ.wt h):SetM w' Δ σ' h b r:=by
 have cb:∀i,w'.cell? ⟨b,i,none⟩=w.cell? ⟨b,i,none⟩:=fun i=>World.cell?_of_block e1
 have cr:∀i,w'.cell? ⟨r,i,none⟩=w.cell? ⟨r,i,none⟩:=fun i=>World.cell?_of_block e2
 have gb:∀i,w'.frozen? ⟨b,i,none⟩=w.frozen? ⟨b,i,none⟩:=fun i=>World.frozen?_of_block e1
 have gr:∀i,w'.frozen? ⟨r,i,none⟩=w.frozen? ⟨r,i,none⟩:=fun i=>World.frozen?_of_block e2
 exact⟨s.vh,⟨s.bb.1,Nat.lt_of_lt_of_le s.bb.2 hs⟩,⟨s.br.1,Nat.lt_of_lt_of_le s.br.2 hs⟩,(cb 0).trans s.c0,(cb 1).trans s.c1,(cb 2).trans s.c2,by rw[et];exact(cb 3).trans s.c3,by rw[ew];exact(cb 4).trans s.c4,fun i=>(gb i).trans (s.fb i),fun m hm=>by rw[er];exact(cr m).trans (s.rc m hm),fun i=>(gr i).trans (s.fr i),fun m=>by rw[er];exact s.rl m⟩
theorem Mut.one{w:World}{Δ:Cg}{σ σ':Ss}(m:Mut w Δ σ)(hb:Blk Δ){h:Hd}{b r:Nat}(hX:σ.X h=some (b,r))(c:Nat)(hc:c=b\/c=r)(i:Nat)(v:Value)(eX:σ'.X=σ.X)(eQ:σ'.Q=σ.Q)(ef:σ'.fd=σ.fd)(et:σ'.to_=σ.to_)
  (eo:∀h',h'≠h->σ'.rc h'=σ.rc h'/\σ'.tp h'=σ.tp h'/\σ'.wt h'=σ.wt h')(hs:SetM (w.setCell ⟨c,i,none⟩ v) Δ σ' h b r):Mut (w.setCell ⟨c,i,none⟩ v) Δ σ'/\Kp w (w.setCell ⟨c,i,none⟩ v) Δ:=by
 have s0:=m.st h b r hX
 have bS:=hb.bS
 have bM:=hb.bM
 have hcb:Δ.b1<=c:=by
  have:=s0.bb.1
  have:=s0.br.1
  rcases hc with h|h<;>omega
 have fr:∀(d j:Nat),(w.setCell ⟨c,i,none⟩ v).frozen? ⟨d,j,none⟩=w.frozen? ⟨d,j,none⟩:=fun d j=>World.frozen?_setCell _ _ _ _
 have cl:∀(d j:Nat),d≠c->(w.setCell ⟨c,i,none⟩ v).cell? ⟨d,j,none⟩=w.cell? ⟨d,j,none⟩:=fun d j hd=>World.cell?_setCell_far _ _ _ _ (Ne.symm hd)
 refine⟨⟨by simp[World.setCell];exact m.sz,fun h' hv=>by rw[cl _ _ (by omega),eX];exact m.mb h' hv,fun j=>by rw[fr];exact m.mf j,fun h' b' r' hX'=>?_,by rw[eX];exact m.inj,?_,by rw[eQ,eX];exact m.qx,by rw[cl _ _ (by omega),ef];exact m.c632,by rw[cl _ _ (by omega),et];exact m.c633,fun j hj=>by rw[fr];exact m.fS j hj⟩,(Kp.refl w Δ).set hb c i (.inl hcb) v⟩
 ·rw[eX]at hX'
  by_cases e:h'=h
  ·subst e
   rw[hX]at hX'
   cases hX'
   exact hs
  ·obtain⟨i1,i2,i3⟩:=m.inj h h' b r b' r' hX hX'
   obtain⟨_,_,j3⟩:=m.inj h' h b' r' b r hX' hX
   obtain⟨o1,o2,o3⟩:=eo h' e
   have n1:b'≠c:=by
    rcases hc with rfl|rfl
    ·exact fun x=>e (i1 x.symm).symm
    ·exact j3
   have n2:r'≠c:=by
    rcases hc with rfl|rfl
    ·exact fun x=>i3 x.symm
    ·exact fun x=>e (i2 x.symm).symm
   exact(m.st h' b' r' hX').far (by simp[World.setCell]) (Below.heap_setCell _ _ _ _ n1) (Below.heap_setCell _ _ _ _ n2) o1 o2 o3
 ·obtain⟨u,hu,ho,hg⟩:=m.wq
  rw[eQ,eX]
  refine⟨u,by rw[cl _ _ (by omega)];exact hu,ownsRow_setCell_other ho (fun x=>?_) _,hg⟩
  obtain⟨g1,g2⟩:=hg c x h b r hX
  rcases hc with e|e
  ·exact g1 e
  ·exact g2 e
theorem Mut.push{w w1:World}{Δ:Cg}{σ:Ss}(m:Mut w Δ σ)(hb:Blk Δ){h:Hd}{br:Nat×Nat}(hX:σ.X h=some br){u r631:Value}{g cap:Nat}{o:Obj}(hu:w.cell? ⟨Δ.S,631,none⟩=some u)
  (hown1:w1.ownsRow Δ.b1 167 1 (.slice (some ⟨g,0,none⟩) (σ.Q.length+1) cap) (σ.Q.length+1) ((σ.Q.map fun h=>pX (σ.X h))++ [pX (σ.X h)]))(hgrow:(w.alloc o).grownBy w1 u.ownBlock)(hat:u.ownBlock=some g\/g=w.heap.size+1)(h1:w1.cell? ⟨Δ.S,631,none⟩=some r631):
  Mut (w1.setCell ⟨Δ.S,631,none⟩ (.slice (some ⟨g,0,none⟩) (σ.Q.length+1) cap)) Δ {σ with Q:=σ.Q++ [h]}/\Kp w (w1.setCell ⟨Δ.S,631,none⟩ (.slice (some ⟨g,0,none⟩) (σ.Q.length+1) cap)) Δ:=by
 have bS:=hb.bS
 have bM:=hb.bM
 have nM:=hb.nM
 have hsz:=m.sz
 obtain⟨u',hu',ho,hg⟩:=m.wq
 rw[hu]at hu'
 cases hu'
 have ulo:∀k,u.ownBlock=some k->Δ.b1<=k:=fun k hk=>(ho.lt k hk).1
 have gS:g≠Δ.S:=by
  rcases hat with e|e
  ·have:=ulo g e;omega
  ·omega
 have hgs:=hgrow.size
 simp only[World.size_alloc]at hgs
 have blk1:∀k,k<w.heap.size->u.ownBlock≠some k->w1.heap[k]?=w.heap[k]?:=fun k hk hn=>(hgrow.block k (by simp;omega) (Ne.symm hn)).trans (Below.heap_alloc _ _ _ hk)
 have blk:∀k,k<w.heap.size->u.ownBlock≠some k->k≠Δ.S->(w1.setCell ⟨Δ.S,631,none⟩ (.slice (some ⟨g,0,none⟩) (σ.Q.length+1) cap)).heap[k]?=w.heap[k]?:=fun k hk hn hS=>by
  rw[Below.heap_setCell _ _ _ _ hS];exact blk1 k hk hn
 have uS:u.ownBlock≠some Δ.S:=fun e=>by have:=ulo _ e;omega
 have uM:u.ownBlock≠some Δ.MB:=fun e=>by have:=ulo _ e;omega
 have S1:∀i,i≠631->(w1.setCell ⟨Δ.S,631,none⟩ (.slice (some ⟨g,0,none⟩) (σ.Q.length+1) cap)).cell? ⟨Δ.S,i,none⟩=w.cell? ⟨Δ.S,i,none⟩:=fun i hi=>by
  rw[World.cell?_setCell_other _ _ _ _ (by rintro e;cases e;exact hi rfl)]
  exact World.cell?_of_block (blk1 Δ.S (by omega) uS)
 refine⟨⟨by simp[World.setCell];omega,fun h' hv=>?_,fun i=>?_,fun h' b' r' hX'=>?_,m.inj,?_,fun h' hm=>?_,(S1 632 (by omega)).trans m.c632,(S1 633 (by omega)).trans m.c633,fun i hi=>?_⟩,?_⟩
 ·rw[World.cell?_of_block (blk Δ.MB (by omega) uM nM)];exact m.mb h' hv
 ·rw[World.frozen?_of_block (blk Δ.MB (by omega) uM nM)];exact m.mf i
 ·have s0:=m.st h' b' r' hX'
  have l1:=s0.bb
  have l2:=s0.br
  exact s0.far (by simp[World.setCell];omega) (blk b' l1.2 (fun e=>(hg b' e h' b' r' hX').1 rfl) (by omega)) (blk r' l2.2 (fun e=>(hg r' e h' b' r' hX').2 rfl) (by omega)) rfl rfl rfl
 ·refine⟨_,World.cell?_setCell_same _ _ _ h1,?_,fun g' hg' h' b' r' hX'=>?_⟩
  ·simp only[List.length_append,List.length_singleton,List.map_append,List.map_cons,List.map_nil]
   exact ownsRow_setCell_other hown1 (by simp[Value.ownBlock];exact gS) _
  ·simp[Value.ownBlock]at hg'
   subst hg'
   have s0:=m.st h' b' r' hX'
   rcases hat with e|e
   ·exact hg g e h' b' r' hX'
   ·have:=s0.bb.2
    have:=s0.br.2
    omega
 ·rcases List.mem_append.1 hm with hm|hm
  ·exact m.qx h' hm
  ·simp at hm;subst hm;exact⟨br,hX⟩
 ·rw[World.frozen?_setCell,World.frozen?_of_block (blk1 Δ.S (by omega) uS)];exact m.fS i hi
 ·refine⟨hgrow.os,hgrow.tape,hgrow.output,by simp[World.setCell];omega,fun k h1 h2 h3=>blk k (by omega) (fun e=>by have:=ulo k e;omega) h2,fun i hi=>S1 i (by omega)⟩
end Go.Proofs.YtldiemjlpnachaaGreatDoor
namespace Go.Proofs.YtldiemjlpnachaaGreatDoor
open Go.RowKit
theorem info_pset:(Tryz.prog.info? 167).map (fun i=>(i.zero,i.size,i.bytes))=some (some (.pointer none),1,8):=by kernel_rfl
theorem uPset:Tryz.prog.underlying 179=some (.slice 167):=by kernel_rfl
theorem two_mod{n:Nat}(hn:n<=25):(2:Int)^n%4294967296=((2^n:Nat):Int):=by
 have hp:2^n<4294967296:=Nat.lt_of_lt_of_le (Nat.pow_lt_pow_right (by omega) (show n<32 by omega)) (by decide)
 have e0:(2:Int)^n=((2^n:Nat):Int):=by rw[Int.natCast_pow];rfl
 rw[e0]
 generalize 2^n=P at hp
 omega
theorem only_any(w:World)(i:Int)(n:Nat)(hi:i=n)(hn:n<=25):
  Calls Tryz.prog 90 #[.int .i64 i] w fun e w'=>e= .returned (.int .u32 (2^n:Nat))/\w'=w:=by
 subst hi
 have H2:=hd (two_mod hn)
 go_enter Tryz.func90,Tryz.ntmps90
 go_wp2
 go_ret
 refine⟨?_,rfl⟩
 show Ending.returned (Value.int .u32 (2^n%4294967296))=_
 rw[H2.out]
theorem and_two(z n:Nat):(((z&&&2^n:Nat):Int) !=0)=z.testBit n:=by
 cases hb:z.testBit n
 ·have:z&&&2^n=0:=by
   apply Nat.eq_of_testBit_eq
   intro j
   rw[Nat.testBit_and,Nat.testBit_two_pow,Nat.zero_testBit]
   by_cases hj:n=j
   ·rw[<-hj,hb];rfl
   ·simp[hj]
  rw[this];rfl
 ·have:z&&&2^n≠0:=by
   intro h0
   have:=congrArg (fun x=>x.testBit n) h0
   simp only[Nat.testBit_and,Nat.testBit_two_pow,Nat.zero_testBit,hb]at this
   simp at this
  simp only[bne_iff_ne,ne_eq]
  omega
theorem two_lt{n:Nat}(hn:n<=25):2^n<4294967296:=Nat.lt_of_lt_of_le (Nat.pow_lt_pow_right (by omega) (show n<32 by omega)) (by decide)
theorem phas_any(w:World)(z:Nat)(hz:z<2^25)(i:Int)(n:Nat)(hi:i=n)(hn:n<=25)(b:Bool)(hb:z.testBit n=b):
  Calls Tryz.prog 110 #[.int .u32 z,.int .i64 i] w fun e w'=>e= .returned (.bool b)/\w'=w:=by
 subst hi
 have Ho:=hd (only_any w n n rfl hn)
 have H2:Hid ((bits .and .u32 (z:Int) ((2^n:Nat):Int) !=0)=b):=hd (by rw[u32_and_nat _ _ (p25 hz) (two_lt hn),and_two,hb])
 generalize 2^n=P at*
 go_enter Tryz.func110,Tryz.ntmps110
 go_wp2_with fail
 refine Ho.out.mono ?_
 rintro e w' ⟨rfl,hww⟩
 subst w'
 go_wp2
 go_ret
 refine⟨?_,rfl⟩
 exact ret_bool H2.out
def reachS(Δ:Cg)(σ:Ss)(h:Hd)(p v z:Nat):Ss:=
 if z&&&(4294967295-σ.rc h (fi Δ.D p+v))=0 then σ
 else {σ with
  rc:=fun h' m=>if h'=h/\m=fi Δ.D p+v then σ.rc h m|||z else σ.rc h' m,
  tp:=fun h'=>if h'=h then(if σ.tp h<p then(p:Int)else σ.tp h)else σ.tp h',
  wt:=fun h'=>if h'=h then true else σ.wt h',
  Q:=if σ.wt h=true then σ.Q else σ.Q++ [h]}
theorem fi_lt{D:List Sd}{p v d:Nat}{x:Sk}(hp:D[p]?=some (x,d))(hv:v<=d):fi D p+v<levs (D.map Prod.snd):=by
 have hl:p<D.length:=(List.getElem?_eq_some_iff.1 hp).1
 have e:(D.map Prod.snd)=(D.map Prod.snd).take p++d::(D.map Prod.snd).drop (p+1):=by
  have h2:(D.map Prod.snd)[p]?=some d:=by rw[List.getElem?_map,hp];rfl
  have h3:p<(D.map Prod.snd).length:=by simpa using hl
  rw[List.getElem?_eq_getElem h3]at h2
  simp only[Option.some.injEq]at h2
  rw[<-h2,<-List.drop_eq_getElem_cons h3,List.take_append_drop]
 unfold fi
 generalize (D.map Prod.snd).take p=A at*
 generalize (D.map Prod.snd).drop (p+1)=B at*
 rw[e]
 simp[levs]
 omega
theorem SetM.setR{w:World}{Δ:Cg}{σ:Ss}{h:Hd}{b r:Nat}(s:SetM w Δ σ h b r)(hbr:b≠r)(mm z:Nat)(hm:mm<Δ.lv)(hz:z<2^25):SetM (w.setCell ⟨r,mm,none⟩ (.int .u32 z)) Δ {σ with rc:=fun h' m=>if h'=h/\m=mm then z else σ.rc h' m} h b r:=by
 have cb:∀i,(w.setCell ⟨r,mm,none⟩ (.int .u32 z)).cell? ⟨b,i,none⟩=w.cell? ⟨b,i,none⟩:=fun i=>World.cell?_setCell_far _ _ _ _ (Ne.symm hbr)
 refine⟨s.vh,by simp[World.setCell];exact s.bb,by simp[World.setCell];exact s.br,(cb 0).trans s.c0,(cb 1).trans s.c1,(cb 2).trans s.c2,(cb 3).trans s.c3,(cb 4).trans s.c4,fun i=>by rw[World.frozen?_setCell];exact s.fb i,fun m hm'=>?_,fun i=>by rw[World.frozen?_setCell];exact s.fr i,fun m=>?_⟩
 ·show _=some (Value.int .u32 ((if h=h/\m=mm then z else σ.rc h m:Nat):Int))
  by_cases e:m=mm
  ·subst e
   rw[if_pos ⟨rfl,rfl⟩]
   exact World.cell?_setCell_same _ _ _ (s.rc m hm)
  ·rw[if_neg (fun x=>e x.2),World.cell?_setCell_other _ _ _ _ (by rintro x;cases x;exact e rfl)]
   exact s.rc m hm'
 ·show(if h=h/\m=mm then z else σ.rc h m)<2^25
  split
  ·exact hz
  ·exact s.rl m
theorem SetM.setT{w:World}{Δ:Cg}{σ:Ss}{h:Hd}{b r:Nat}(s:SetM w Δ σ h b r)(hbr:b≠r)(t:Int):SetM (w.setCell ⟨b,3,none⟩ (.int .i64 t)) Δ {σ with tp:=fun h'=>if h'=h then t else σ.tp h'} h b r:=by
 have cb:∀i,i≠3->(w.setCell ⟨b,3,none⟩ (.int .i64 t)).cell? ⟨b,i,none⟩=w.cell? ⟨b,i,none⟩:=fun i hi=>World.cell?_setCell_other _ _ _ _ (by rintro x;cases x;exact hi rfl)
 have cr:∀i,(w.setCell ⟨b,3,none⟩ (.int .i64 t)).cell? ⟨r,i,none⟩=w.cell? ⟨r,i,none⟩:=fun i=>World.cell?_setCell_far _ _ _ _ hbr
 refine⟨s.vh,by simp[World.setCell];exact s.bb,by simp[World.setCell];exact s.br,(cb 0 (by omega)).trans s.c0,(cb 1 (by omega)).trans s.c1,(cb 2 (by omega)).trans s.c2,?_,(cb 4 (by omega)).trans s.c4,fun i=>by rw[World.frozen?_setCell];exact s.fb i,fun m hm'=>(cr m).trans (s.rc m hm'),fun i=>by rw[World.frozen?_setCell];exact s.fr i,s.rl⟩
 show _=some (Value.int .i64 (if h=h then t else σ.tp h))
 rw[if_pos rfl]
 exact World.cell?_setCell_same _ _ _ s.c3
theorem SetM.setW{w:World}{Δ:Cg}{σ:Ss}{h:Hd}{b r:Nat}(s:SetM w Δ σ h b r)(hbr:b≠r)(t:Bool):SetM (w.setCell ⟨b,4,none⟩ (.bool t)) Δ {σ with wt:=fun h'=>if h'=h then t else σ.wt h'} h b r:=by
 have cb:∀i,i≠4->(w.setCell ⟨b,4,none⟩ (.bool t)).cell? ⟨b,i,none⟩=w.cell? ⟨b,i,none⟩:=fun i hi=>World.cell?_setCell_other _ _ _ _ (by rintro x;cases x;exact hi rfl)
 have cr:∀i,(w.setCell ⟨b,4,none⟩ (.bool t)).cell? ⟨r,i,none⟩=w.cell? ⟨r,i,none⟩:=fun i=>World.cell?_setCell_far _ _ _ _ hbr
 refine⟨s.vh,by simp[World.setCell];exact s.bb,by simp[World.setCell];exact s.br,(cb 0 (by omega)).trans s.c0,(cb 1 (by omega)).trans s.c1,(cb 2 (by omega)).trans s.c2,(cb 3 (by omega)).trans s.c3,?_,fun i=>by rw[World.frozen?_setCell];exact s.fb i,fun m hm'=>(cr m).trans (s.rc m hm'),fun i=>by rw[World.frozen?_setCell];exact s.fr i,s.rl⟩
 show _=some (Value.bool (if h=h then t else σ.wt h))
 rw[if_pos rfl]
 exact World.cell?_setCell_same _ _ _ s.c4
theorem Mut.setR{w:World}{Δ:Cg}{σ:Ss}(m:Mut w Δ σ)(hb:Blk Δ){h:Hd}{b r:Nat}(hX:σ.X h=some (b,r))(mm z:Nat)(hm:mm<Δ.lv)(hz:z<2^25):Mut (w.setCell ⟨r,mm,none⟩ (.int .u32 z)) Δ {σ with rc:=fun h' m=>if h'=h/\m=mm then z else σ.rc h' m}/\Kp w (w.setCell ⟨r,mm,none⟩ (.int .u32 z)) Δ:=
 m.one hb hX r (.inr rfl) mm _ rfl rfl rfl rfl (fun h' e=>⟨by funext m;exact if_neg (fun x=>e x.1),rfl,rfl⟩) ((m.st h b r hX).setR (m.inj h h b r b r hX hX).2.2 mm z hm hz)
theorem Mut.setT{w:World}{Δ:Cg}{σ:Ss}(m:Mut w Δ σ)(hb:Blk Δ){h:Hd}{b r:Nat}(hX:σ.X h=some (b,r))(t:Int):Mut (w.setCell ⟨b,3,none⟩ (.int .i64 t)) Δ {σ with tp:=fun h'=>if h'=h then t else σ.tp h'}/\Kp w (w.setCell ⟨b,3,none⟩ (.int .i64 t)) Δ:=
 m.one hb hX b (.inl rfl) 3 _ rfl rfl rfl rfl (fun _ e=>⟨rfl,if_neg e,rfl⟩) ((m.st h b r hX).setT (m.inj h h b r b r hX hX).2.2 t)
theorem Mut.setW{w:World}{Δ:Cg}{σ:Ss}(m:Mut w Δ σ)(hb:Blk Δ){h:Hd}{b r:Nat}(hX:σ.X h=some (b,r))(t:Bool):Mut (w.setCell ⟨b,4,none⟩ (.bool t)) Δ {σ with wt:=fun h'=>if h'=h then t else σ.wt h'}/\Kp w (w.setCell ⟨b,4,none⟩ (.bool t)) Δ:=
 m.one hb hX b (.inl rfl) 4 _ rfl rfl rfl rfl (fun _ e=>⟨rfl,rfl,if_neg e⟩) ((m.st h b r hX).setW (m.inj h h b r b r hX hX).2.2 t)
theorem Mut.cast{w:World}{Δ:Cg}{σ σ':Ss}(m:Mut w Δ σ')(e:σ=σ'):Mut w Δ σ:=by rw[e];exact m
theorem reachS_eq{Δ:Cg}{σ:Ss}{h:Hd}{p v z:Nat}(h0:¬z&&&(4294967295-σ.rc h (fi Δ.D p+v))=0)(σ':Ss)(eX:σ'.X=σ.X)(er:∀h' m,σ'.rc h' m=if h'=h/\m=fi Δ.D p+v then σ.rc h m|||z else σ.rc h' m)(et:∀h',σ'.tp h'=if h'=h then(if σ.tp h<p then(p:Int)else σ.tp h)else σ.tp h')(ew:∀h',σ'.wt h'=if h'=h then true else σ.wt h')(eQ:σ'.Q=if σ.wt h=true then σ.Q else σ.Q++ [h])(ef:σ'.fd=σ.fd)(eo:σ'.to_=σ.to_):reachS Δ σ h p v z=σ':=by
 unfold reachS
 rw[if_neg h0]
 obtain⟨X,rc,tp,wt,Q,fd,to_⟩:=σ'
 simp only at*
 subst eX eQ ef eo
 congr 1
 ·funext h' m;exact(er h' m).symm
 ·funext h';exact(et h').symm
 ·funext h';exact(ew h').symm
theorem heap_alloc_at{W:World}{o:Obj}{n:Nat}(h:W.heap.size=n):(W.alloc o).heap[n]?=some o:=by subst h;exact heap_alloc_new W o
theorem reach_any{w:World}{Δ:Cg}{σ:Ss}(hb:Blk Δ)(r:Rdo w Δ)(m:Mut w Δ σ){h:Hd}{b rb:Nat}(hX:σ.X h=some (b,rb)){p v d z:Nat}{x:Sk}(hp:Δ.D[p]?=some (x,d))(hv:v<=d)(hz:z<2^25)(hlv:Δ.lv=levs (Δ.D.map Prod.snd))(hlb:Δ.lv<=301000)(hQ:σ.Q.length<=10000000000000):
  Calls Tryz.prog 89 #[.pointer (some ⟨Δ.S,0,none⟩),.pointer (some ⟨b,0,none⟩),.int .i64 p,.int .i64 v,.int .u32 z] w fun e w'=>e= .returned (.tuple #[])/\Mut w' Δ (reachS Δ σ h p v z)/\Kp w w' Δ:=by
 have s0:=r.s0
 have p0:=r.p0
 have hpl:p<Δ.D.length:=(List.getElem?_eq_some_iff.1 hp).1
 have hq0:(0:Int)<=(p:Int):=by omega
 have hq1:(p:Int)<(Δ.D.length:Int):=by omega
 obtain⟨c,hc,hcell⟩:=r.st p _ hp
 have c13:w.cell? ⟨Δ.G,p*14+13,none⟩=some (.int .i64 (fi Δ.D p)):=by
  refine hcell 13 _ ?_
  cases x with
  |one f n=>obtain⟨a,e,_⟩:=hc;rw[e];rfl
  |_=>rw[show c=_ from hc];rfl
 have hm:=fi_lt hp hv
 rw[<-hlv]at hm
 have st:=m.st h b rb hX
 have k2:=st.c2
 have k3:=st.c3
 have k4:=st.c4
 have kr:=st.rc _ hm
 have krl:=st.rl (fi Δ.D p+v)
 generalize hmm:fi Δ.D p+v=mm at*
 have hmi:((fi Δ.D p:Nat):Int)+(v:Int)=(mm:Int):=by omega
 have hm0:(0:Int)<=(mm:Int):=by omega
 have hm1:(mm:Int)<(Δ.lv:Int):=by omega
 have hmb:(mm:Int)<=301000:=by omega
 have hand:bits .andNot .u32 (z:Int) (σ.rc h mm:Int)=((z&&&(4294967295-σ.rc h mm):Nat):Int):=u32_andNot_nat _ _ (p25 hz) (p25 krl)
 by_cases h0:z&&&(4294967295-σ.rc h mm)=0
 ·have Hz:Hid (reachS Δ σ h p v z=σ):=hd (by unfold reachS;rw[hmm,if_pos h0])
  have hb0:(bits .andNot .u32 (z:Int) (σ.rc h mm:Int)==0)=true:=by rw[hand,h0];rfl
  have Hm:=hd m
  clear m hc hcell h0 hand hp hv hz hlv hlb hpl krl hb hX st r hmm
  go_enter Tryz.func89,Tryz.ntmps89
  go_wp2
  refine bodyPost_ret (v:= .tuple #[]) (by simp[results,Tryz.results89,go_sem]) rfl ⟨rfl,by rw[Hz.out];exact Hm.out,Kp.refl _ _⟩
 ·have hb0:(bits .andNot .u32 (z:Int) (σ.rc h mm:Int)==0)=false:=by rw[hand];simp only[beq_eq_false_iff_ne,ne_eq];omega
  have hor:bits .or .u32 (σ.rc h mm:Int) (z:Int)=((σ.rc h mm|||z:Nat):Int):=u32_or_nat _ _ (p25 krl) (p25 hz)
  have hol:σ.rc h mm|||z<2^25:=Nat.or_lt_two_pow krl hz
  have frr:=st.fr mm
  have fb3:=st.fb 3
  have fb4:=st.fb 4
  have hbr:=(m.inj h h b rb b rb hX hX).2.2
  have M1:=m.setR hb hX mm _ hm hol
  have H0:Hid (¬z&&&(4294967295-σ.rc h (fi Δ.D p+v))=0):=hd (by rw[hmm];exact h0)
  have Hmm:=hd hmm
  have HX:=hd hX
  have l1:=st.bb.1
  have l2:=st.br.1
  have bS:=hb.bS
  obtain⟨u,c631,hown,hgg⟩:=m.wq
  have f631:=m.fS 631 (by omega)
  clear hc hcell h0 hand hmm
  cases hw:σ.wt h
  ·rw[hw]at k4
   by_cases htl:σ.tp h<p
   ·have M2:=M1.1.setT hb (h:=h) (b:=b) (r:=rb) hX p
    have K2:=M1.2.trans M2.2
    have M3:=M2.1.setW hb (h:=h) (b:=b) (r:=rb) hX true
    have K3:=K2.trans M3.2
    have R3:=Mut.cast M3.1 rfl
    have HP:Hid (∀(w1:World) (g cap:Nat) (o:Obj) (r631:Value),w1.ownsRow Δ.b1 167 1 (.slice (some ⟨g,0,none⟩) (σ.Q.length+1) cap) (σ.Q.length+1) ((σ.Q.map fun h=>pX (σ.X h))++ [.pointer (some ⟨b,0,none⟩)])->((((w.setCell ⟨rb,mm,none⟩ (.int .u32 ((σ.rc h mm|||z:Nat):Int))).setCell ⟨b,3,none⟩ (.int .i64 (p:Int))).setCell ⟨b,4,none⟩ (.bool true)).alloc o).grownBy w1 u.ownBlock->(u.ownBlock=some g\/g=w.heap.size+1)->w1.cell? ⟨Δ.S,631,none⟩=some r631->Mut (w1.setCell ⟨Δ.S,631,none⟩ (.slice (some ⟨g,0,none⟩) (σ.Q.length+1) cap)) Δ (reachS Δ σ h p v z)/\Kp w (w1.setCell ⟨Δ.S,631,none⟩ (.slice (some ⟨g,0,none⟩) (σ.Q.length+1) cap)) Δ):=hd (fun w1 g cap o r631 h1 h2 h3 h4=>by
     have c6:(((w.setCell ⟨rb,mm,none⟩ (.int .u32 ((σ.rc h mm|||z:Nat):Int))).setCell ⟨b,3,none⟩ (.int .i64 (p:Int))).setCell ⟨b,4,none⟩ (.bool true)).cell? ⟨Δ.S,631,none⟩=some u:=by
      rw[World.cell?_setCell_far _ _ _ _ (by show b≠Δ.S;omega),World.cell?_setCell_far _ _ _ _ (by show b≠Δ.S;omega),World.cell?_setCell_far _ _ _ _ (by show rb≠Δ.S;omega)]
      exact c631
     have e4:pX (σ.X h)= .pointer (some ⟨b,0,none⟩):=by rw[hX];rfl
     have Mp:=M3.1.push hb (h:=h) (br:=(b,rb)) hX c6 (g:=g) (cap:=cap) (by rw[<-e4]at h1;exact h1) h2 (by simpa[World.setCell]using h3) h4
     exact⟨Mut.cast Mp.1 (reachS_eq H0.out _ rfl (fun h' m=>by
      simp only
      rw[Hmm.out]
      by_cases e:h'=h/\m=mm
      ·rw[if_pos e,if_pos e,e.2]
      ·rw[if_neg e,if_neg e]) (fun h'=>by
      simp only
      rw[if_pos htl]) (fun h'=>rfl) (by simp only;rw[hw];rfl) rfl rfl),K3.trans Mp.2⟩)
    have ho3:(((w.setCell ⟨rb,mm,none⟩ (.int .u32 ((σ.rc h mm|||z:Nat):Int))).setCell ⟨b,3,none⟩ (.int .i64 (p:Int))).setCell ⟨b,4,none⟩ (.bool true)).ownsRow Δ.b1 167 1 u σ.Q.length (σ.Q.map fun h=>pX (σ.X h)):=ownsRow_setCell_other (ownsRow_setCell_other (ownsRow_setCell_other hown (fun x=>(hgg rb x h b rb hX).2 rfl) _) (fun x=>(hgg b x h b rb hX).1 rfl) _) (fun x=>(hgg b x h b rb hX).1 rfl) _
    obtain⟨ua,uc,rfl⟩:=owns_shape hown
    have Ho3:=hd ho3
    have lS:=World.block_lt_of_cell? w _ c631
    have agS:(Value.slice ua σ.Q.length uc).ownBlock≠some Δ.S:=by
     intro e
     have:=(hown.lt _ e).1
     omega
    have hsz0:=m.sz
    obtain⟨i0,hi0,hz0,hz1,hz2⟩:=info_parts info_pset
    clear M1 M2 M3 R3 K2 K3 hown hgg m r st hol hX ho3 hp hv hz hlv hlb hpl krl hb HX H0 Hmm
    generalize ((σ.rc h mm|||z:Nat):Int)=zz at*
    have htd:decide (σ.tp h<(p:Int))=true:=by simpa using htl
    go_enter Tryz.func89,Tryz.ntmps89
    go_upto_region 7 with fail
    go_wp2_with
     (refine wpList_append_lies _ (by rfl) _ _ _ (by rfl) Δ.b1 167 i0 _ 1 8 uPset hi0 hz0 hz1 hz2 rfl (by omega) (.slice ua σ.Q.length uc) σ.Q.length (σ.Q.map fun h=>pX (σ.X h)) (by rfl) (Ho3.out.alloc _)
       ⟨w.heap.size,0,none⟩ 1 1 [.pointer (some ⟨b,0,none⟩)] (by rfl) (by rfl) (World.news_of_block (cs:= #[.pointer (some ⟨b,0,none⟩)]) (t:=167) (fr:=(0,0)) (heap_alloc_at (by simp[World.setCell]))) (by simp[Value.oneCell'])
       (by omega) (by unfold maxLen;omega) (by omega) (by simp[World.setCell];omega) (w.heap.size+1) (by simp[World.setCell]) ?_
      intro g cap w1 hown1 hgrow hat hlt
      have r631:w1.cell? ⟨Δ.S,631,none⟩=some (.slice ua σ.Q.length uc):=(hgrow.cell_far _ (by simp[World.setCell];omega) (Ne.symm agS)).trans ((World.cell?_alloc_lt _ _ _ (by simp[World.setCell];omega)).trans (by rw[World.cell?_setCell_far _ _ _ _ (by show b≠Δ.S;omega),World.cell?_setCell_far _ _ _ _ (by show b≠Δ.S;omega),World.cell?_setCell_far _ _ _ _ (by show rb≠Δ.S;omega)];exact c631))
      have rf631:w1.frozen? ⟨Δ.S,631,none⟩=false:=(hgrow.frozen_far _ (by simp[World.setCell];omega) (Ne.symm agS)).trans ((World.frozen?_alloc_old _ _ _ (by simp[World.setCell];omega)).trans (by rw[World.frozen?_setCell,World.frozen?_setCell,World.frozen?_setCell];exact f631))
      have HD:=hd (HP.out w1 g cap _ _ hown1 hgrow hat r631)
      clear hown1 hgrow hat hlt)
    go_end0
    exact⟨rfl,HD.out.1,HD.out.2⟩
   ·have M2:=M1
    have K2:=M1.2
    have M3:=M2.1.setW hb (h:=h) (b:=b) (r:=rb) hX true
    have K3:=K2.trans M3.2
    have R3:=Mut.cast M3.1 rfl
    have HP:Hid (∀(w1:World) (g cap:Nat) (o:Obj) (r631:Value),w1.ownsRow Δ.b1 167 1 (.slice (some ⟨g,0,none⟩) (σ.Q.length+1) cap) (σ.Q.length+1) ((σ.Q.map fun h=>pX (σ.X h))++ [.pointer (some ⟨b,0,none⟩)])->(((w.setCell ⟨rb,mm,none⟩ (.int .u32 ((σ.rc h mm|||z:Nat):Int))).setCell ⟨b,4,none⟩ (.bool true)).alloc o).grownBy w1 u.ownBlock->(u.ownBlock=some g\/g=w.heap.size+1)->w1.cell? ⟨Δ.S,631,none⟩=some r631->Mut (w1.setCell ⟨Δ.S,631,none⟩ (.slice (some ⟨g,0,none⟩) (σ.Q.length+1) cap)) Δ (reachS Δ σ h p v z)/\Kp w (w1.setCell ⟨Δ.S,631,none⟩ (.slice (some ⟨g,0,none⟩) (σ.Q.length+1) cap)) Δ):=hd (fun w1 g cap o r631 h1 h2 h3 h4=>by
     have c6:((w.setCell ⟨rb,mm,none⟩ (.int .u32 ((σ.rc h mm|||z:Nat):Int))).setCell ⟨b,4,none⟩ (.bool true)).cell? ⟨Δ.S,631,none⟩=some u:=by
      rw[World.cell?_setCell_far _ _ _ _ (by show b≠Δ.S;omega),World.cell?_setCell_far _ _ _ _ (by show rb≠Δ.S;omega)]
      exact c631
     have e4:pX (σ.X h)= .pointer (some ⟨b,0,none⟩):=by rw[hX];rfl
     have Mp:=M3.1.push hb (h:=h) (br:=(b,rb)) hX c6 (g:=g) (cap:=cap) (by rw[<-e4]at h1;exact h1) h2 (by simpa[World.setCell]using h3) h4
     exact⟨Mut.cast Mp.1 (reachS_eq H0.out _ rfl (fun h' m=>by
      simp only
      rw[Hmm.out]
      by_cases e:h'=h/\m=mm
      ·rw[if_pos e,if_pos e,e.2]
      ·rw[if_neg e,if_neg e]) (fun h'=>by
      simp only
      rw[if_neg htl]
      by_cases e:h'=h
      ·rw[if_pos e,e]
      ·rw[if_neg e]) (fun h'=>rfl) (by simp only;rw[hw];rfl) rfl rfl),K3.trans Mp.2⟩)
    have ho3:((w.setCell ⟨rb,mm,none⟩ (.int .u32 ((σ.rc h mm|||z:Nat):Int))).setCell ⟨b,4,none⟩ (.bool true)).ownsRow Δ.b1 167 1 u σ.Q.length (σ.Q.map fun h=>pX (σ.X h)):=ownsRow_setCell_other (ownsRow_setCell_other hown (fun x=>(hgg rb x h b rb hX).2 rfl) _) (fun x=>(hgg b x h b rb hX).1 rfl) _
    obtain⟨ua,uc,rfl⟩:=owns_shape hown
    have Ho3:=hd ho3
    have lS:=World.block_lt_of_cell? w _ c631
    have agS:(Value.slice ua σ.Q.length uc).ownBlock≠some Δ.S:=by
     intro e
     have:=(hown.lt _ e).1
     omega
    have hsz0:=m.sz
    obtain⟨i0,hi0,hz0,hz1,hz2⟩:=info_parts info_pset
    clear M1 M2 M3 R3 K2 K3 hown hgg m r st hol hX ho3 hp hv hz hlv hlb hpl krl hb HX H0 Hmm
    generalize ((σ.rc h mm|||z:Nat):Int)=zz at*
    have htd:decide (σ.tp h<(p:Int))=false:=by simpa using htl
    go_enter Tryz.func89,Tryz.ntmps89
    go_upto_region 7 with fail
    go_wp2_with
     (refine wpList_append_lies _ (by rfl) _ _ _ (by rfl) Δ.b1 167 i0 _ 1 8 uPset hi0 hz0 hz1 hz2 rfl (by omega) (.slice ua σ.Q.length uc) σ.Q.length (σ.Q.map fun h=>pX (σ.X h)) (by rfl) (Ho3.out.alloc _)
       ⟨w.heap.size,0,none⟩ 1 1 [.pointer (some ⟨b,0,none⟩)] (by rfl) (by rfl) (World.news_of_block (cs:= #[.pointer (some ⟨b,0,none⟩)]) (t:=167) (fr:=(0,0)) (heap_alloc_at (by simp[World.setCell]))) (by simp[Value.oneCell'])
       (by omega) (by unfold maxLen;omega) (by omega) (by simp[World.setCell];omega) (w.heap.size+1) (by simp[World.setCell]) ?_
      intro g cap w1 hown1 hgrow hat hlt
      have r631:w1.cell? ⟨Δ.S,631,none⟩=some (.slice ua σ.Q.length uc):=(hgrow.cell_far _ (by simp[World.setCell];omega) (Ne.symm agS)).trans ((World.cell?_alloc_lt _ _ _ (by simp[World.setCell];omega)).trans (by rw[World.cell?_setCell_far _ _ _ _ (by show b≠Δ.S;omega),World.cell?_setCell_far _ _ _ _ (by show rb≠Δ.S;omega)];exact c631))
      have rf631:w1.frozen? ⟨Δ.S,631,none⟩=false:=(hgrow.frozen_far _ (by simp[World.setCell];omega) (Ne.symm agS)).trans ((World.frozen?_alloc_old _ _ _ (by simp[World.setCell];omega)).trans (by rw[World.frozen?_setCell,World.frozen?_setCell];exact f631))
      have HD:=hd (HP.out w1 g cap _ _ hown1 hgrow hat r631)
      clear hown1 hgrow hat hlt)
    go_end0
    exact⟨rfl,HD.out.1,HD.out.2⟩
  ·rw[hw]at k4
   by_cases htl:σ.tp h<p
   ·have M2:=M1.1.setT hb (h:=h) (b:=b) (r:=rb) hX p
    have K2:=M1.2.trans M2.2
    have HM:Hid (Mut ((w.setCell ⟨rb,mm,none⟩ (.int .u32 ((σ.rc h mm|||z:Nat):Int))).setCell ⟨b,3,none⟩ (.int .i64 (p:Int))) Δ (reachS Δ σ h p v z)/\Kp w ((w.setCell ⟨rb,mm,none⟩ (.int .u32 ((σ.rc h mm|||z:Nat):Int))).setCell ⟨b,3,none⟩ (.int .i64 (p:Int))) Δ):=hd ⟨Mut.cast M2.1 (reachS_eq H0.out _ rfl (fun h' m=>by
      simp only
      rw[Hmm.out]
      by_cases e:h'=h/\m=mm
      ·rw[if_pos e,if_pos e,e.2]
      ·rw[if_neg e,if_neg e]) (fun h'=>by
      simp only
      rw[if_pos htl]) (fun h'=>by
      simp only
      by_cases e:h'=h
      ·rw[if_pos e,e,hw]
      ·rw[if_neg e]) (by simp only;rw[hw,if_pos rfl]) rfl rfl),K2⟩
    clear M1 M2 K2 hown hgg m r st hol hX hp hv hz hlv hlb hpl krl hb HX H0 Hmm l1 l2 bS
    generalize ((σ.rc h mm|||z:Nat):Int)=zz at*
    have htd:decide (σ.tp h<(p:Int))=true:=by simpa using htl
    go_enter Tryz.func89,Tryz.ntmps89
    go_wp2
    go_end0
    exact⟨rfl,HM.out.1,HM.out.2⟩
   ·have M2:=M1
    have K2:=M1.2
    have HM:Hid (Mut (w.setCell ⟨rb,mm,none⟩ (.int .u32 ((σ.rc h mm|||z:Nat):Int))) Δ (reachS Δ σ h p v z)/\Kp w (w.setCell ⟨rb,mm,none⟩ (.int .u32 ((σ.rc h mm|||z:Nat):Int))) Δ):=hd ⟨Mut.cast M2.1 (reachS_eq H0.out _ rfl (fun h' m=>by
      simp only
      rw[Hmm.out]
      by_cases e:h'=h/\m=mm
      ·rw[if_pos e,if_pos e,e.2]
      ·rw[if_neg e,if_neg e]) (fun h'=>by
      simp only
      rw[if_neg htl]
      by_cases e:h'=h
      ·rw[if_pos e,e]
      ·rw[if_neg e]) (fun h'=>by
      simp only
      by_cases e:h'=h
      ·rw[if_pos e,e,hw]
      ·rw[if_neg e]) (by simp only;rw[hw,if_pos rfl]) rfl rfl),K2⟩
    clear M1 M2 K2 hown hgg m r st hol hX hp hv hz hlv hlb hpl krl hb HX H0 Hmm l1 l2 bS
    generalize ((σ.rc h mm|||z:Nat):Int)=zz at*
    have htd:decide (σ.tp h<(p:Int))=false:=by simpa using htl
    go_enter Tryz.func89,Tryz.ntmps89
    go_wp2
    go_end0
    exact⟨rfl,HM.out.1,HM.out.2⟩
end Go.Proofs.YtldiemjlpnachaaGreatDoor

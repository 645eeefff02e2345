import Derived.Test.YtldiemjlpnachaaGreatDoorBck
import Derived.Deep.MidRow
import Derived.Deep.WholeRow
set_option maxHeartbeats 6400000
set_option maxRecDepth 100000
namespace Go.Proofs.YtldiemjlpnachaaGreatDoor
open Go.RowKit
structure Eqw(w w':World):Prop where
 os:w'.os=w.os
 tape:w'.tape=w.tape
 output:w'.output=w.output
 heap:w'.heap=w.heap
theorem Eqw.refl(w:World):Eqw w w:=⟨rfl,rfl,rfl,rfl⟩
theorem Eqw.trans{a b c:World}(h:Eqw a b)(k:Eqw b c):Eqw a c:=⟨k.os.trans h.os,k.tape.trans h.tape,k.output.trans h.output,k.heap.trans h.heap⟩
theorem placesOf_any(w:World)(s:ByteArray)(c:Nat)(hs:s.size<=24):
  Calls Tryz.prog 108 #[.string s,.int .u8 c] w fun e w'=>e= .returned (.int .u32 (bf (fun i=>decide (ch s.data.toList i=c)) s.size:Nat))/\Eqw w w':=by
 have hs1:(s.size:Int)<=24:=by omega
 go_enter Tryz.func108,Tryz.ntmps108
 go_wp2_with fail
 go_loopg [5,6] (s.size+1) (fun k pv iv wr=>∃(t:Nat),iv= .int .i64 t/\pv= .int .u32 (bf (fun i=>decide (ch s.data.toList i=c)) t:Nat)/\t<=s.size/\s.size<t+k/\Hid (Eqw w wr))
 case atStart=>exact⟨0,rfl,rfl,Nat.zero_le _,by omega,hd (Eqw.refl w)⟩
 case round=>
  obtain⟨t,rfl,rfl,ht,htk,HE⟩:=hrel
  by_cases hlt:t<s.size
  ·have ht0:(0:Int)<=(t:Int):=by omega
   have ht1:(t:Int)<(s.size:Int):=by omega
   have hz:bf (fun i=>decide (ch s.data.toList i=c)) t<2^25:=Nat.lt_of_lt_of_le (bf_lt _ t) (Nat.pow_le_pow_right (by omega) (by omega))
   have Hbf:Hid (bf (fun i=>decide (ch s.data.toList i=c)) (t+1)=bf (fun i=>decide (ch s.data.toList i=c)) t|||(if decide (ch s.data.toList t=c)=true then 2^t else 0)):=hd rfl
   generalize bf (fun i=>decide (ch s.data.toList i=c)) t=z at*
   by_cases hc:ch s.data.toList t=c
   ·have hcb:(((s[t]'hlt).toNat:Int)==(c:Int))=true:=by rw[ch_get s t hlt,hc];simp
    have HZ:Hid (bf (fun i=>decide (ch s.data.toList i=c)) (t+1)=z|||2^t):=hd (by rw[Hbf.out,decide_eq_true hc];rfl)
    have hor:bits .or .u32 (z:Int) ((2^t:Nat):Int)=((z|||2^t:Nat):Int):=u32_or_nat _ _ (p25 hz) (two_lt (by omega))
    have Hor:=hd hor
    have Hon:=hd (fun W:World=>only_any W (t:Int) t rfl (show t<=25 by omega))
    clear hz Hbf hc hor
    go_wp2_with fail
    refine(Hon.out _).mono ?_
    rintro e2 w2 ⟨rfl,rfl⟩
    have hor:=Hor.out
    generalize 2^t=tt at*
    go_wp2
    go_roundg (gk-1)
    case measure=>omega
    case rel=>exact⟨t+1,by go_num,by rw[HZ.out],by omega,by omega,HE⟩
   ·have hcb:(((s[t]'hlt).toNat:Int)==(c:Int))=false:=by rw[ch_get s t hlt];simp;omega
    have HZ:Hid (bf (fun i=>decide (ch s.data.toList i=c)) (t+1)=z):=hd (by rw[Hbf.out,decide_eq_false hc];simp)
    clear hz Hbf hc
    go_wp2
    go_roundg (gk-1)
    case measure=>omega
    case rel=>exact⟨t+1,by go_num,by rw[HZ.out],by omega,by omega,HE⟩
  ·have hte:t=s.size:=by omega
   subst hte
   go_wp2
   go_ret
   exact⟨rfl,HE.out⟩
end Go.Proofs.YtldiemjlpnachaaGreatDoor
namespace Go.Proofs.YtldiemjlpnachaaGreatDoor
def Std(l:List UInt8)(a b i:Nat):Bool:=decide (i+(b-a)<=l.length)&&(List.range (b-a)).all (fun t=>ch l (a+t)==ch l (i+t))
theorem std_iff{l:List UInt8}{a b i:Nat}:Std l a b i=true↔Stands l a b i:=by
 unfold Std Stands
 rw[Bool.and_eq_true,decide_eq_true_iff,List.all_eq_true]
 simp only[List.mem_range,beq_iff_eq]
theorem stands_same{l:List UInt8}{a i z:Nat}(h:Stands l a (a+z) i)(k:Nat):Stands l i (i+z) k↔Stands l a (a+z) k:=by
 unfold Stands at*
 rw[show a+z-a=z by omega]at h ⊢
 rw[show i+z-i=z by omega]
 constructor
 ·rintro⟨h1,h2⟩
  exact⟨h1,fun t ht=>(h.2 t ht).trans (h2 t ht)⟩
 ·rintro⟨h1,h2⟩
  exact⟨h1,fun t ht=>(h.2 t ht).symm.trans (h2 t ht)⟩
theorem std_same{l:List UInt8}{a i z:Nat}(h:Std l a (a+z) i=true):Std l i (i+z)=Std l a (a+z):=by
 funext k
 rw[Bool.eq_iff_iff,std_iff,std_iff]
 exact stands_same (std_iff.1 h) k
def upN(num:Nat->Nat->Nat)(a b v:Nat):Nat->Nat->Nat:=fun x y=>if x=a/\y=b then v else num x y
structure PIv(l:List UInt8)(num:Nat->Nat->Nat)(L:List (Nat×Nat))(dn:Nat->Nat->Prop):Prop where
 ok:∀a b,a<=b->b<=l.length->dn a b->L[num a b]?=some (b-a,bf (Std l a b) 25)
 all:∀(j:Nat) z,L[j]?=some z->∃a b,a<=b/\b<=l.length/\z=(b-a,bf (Std l a b) 25)
theorem PIv.old{l:List UInt8}{num:Nat->Nat->Nat}{L:List (Nat×Nat)}{dn:Nat->Nat->Prop}(h:PIv l num L dn){a i z:Nat}(hi:dn i (i+z))(hs:Std l a (a+z) i=true):PIv l (upN num a (a+z) (num i (i+z))) L (fun x y=>dn x y\/(x=a/\y=a+z)):=by
 refine⟨fun x y hx hy hd=>?_,h.all⟩
 unfold upN
 by_cases e:x=a/\y=a+z
 ·rw[if_pos e]
  have h1:i+z<=l.length:=by have:=(std_iff.1 hs).1;omega
  rw[h.ok i (i+z) (by omega) h1 hi,std_same hs,e.1,e.2]
  congr 2
  omega
 ·rw[if_neg e]
  exact h.ok x y hx hy (hd.resolve_right e)
theorem PIv.new{l:List UInt8}{num:Nat->Nat->Nat}{L:List (Nat×Nat)}{dn:Nat->Nat->Prop}(h:PIv l num L dn){a z:Nat}(ha:a+z<=l.length):PIv l (upN num a (a+z) L.length) (L++ [(z,bf (Std l a (a+z)) 25)]) (fun x y=>dn x y\/(x=a/\y=a+z)):=by
 refine⟨fun x y hx hy hd=>?_,fun j y hj=>?_⟩
 ·unfold upN
  by_cases e:x=a/\y=a+z
  ·rw[if_pos e,List.getElem?_append_right (Nat.le_refl _),Nat.sub_self,e.1,e.2,show a+z-a=z by omega]
   rfl
  ·rw[if_neg e]
   have h1:=h.ok x y hx hy (hd.resolve_right e)
   rw[List.getElem?_append_left (List.getElem?_eq_some_iff.1 h1).1]
   exact h1
 ·by_cases e:j<L.length
  ·rw[List.getElem?_append_left e]at hj
   exact h.all j y hj
  ·rw[List.getElem?_append_right (by omega)]at hj
   have e2:j-L.length=0:=by
    have:=(List.getElem?_eq_some_iff.1 hj).1
    simp at this
    omega
   rw[e2]at hj
   cases hj
   exact⟨a,a+z,by omega,ha,by rw[show a+z-a=z by omega]⟩
def prtOf(num:Nat->Nat->Nat)(L:List (Nat×Nat)):Prt:=⟨num,fun j=>(L.getD j (0,0)).1,fun j i=>(L.getD j (0,0)).2.testBit i,L.length⟩
theorem PIv.prt{l:List UInt8}{num:Nat->Nat->Nat}{L:List (Nat×Nat)}{dn:Nat->Nat->Prop}(h:PIv l num L dn)(hl:l.length<=24)(hdn:∀a b,a<=b->b<=l.length->dn a b):PrtOk l (prtOf num L)/\(∀j,j<L.length->∀i,(prtOf num L).at_ j i=true->i+(prtOf num L).sz j<=l.length):=by
 have hg:∀a b,a<=b->b<=l.length->L.getD (num a b) (0,0)=(b-a,bf (Std l a b) 25):=fun a b h1 h2=>by
  rw[List.getD_eq_getElem?_getD,h.ok a b h1 h2 (hdn a b h1 h2)];rfl
 refine⟨⟨fun a b h1 h2=>(List.getElem?_eq_some_iff.1 (h.ok a b h1 h2 (hdn a b h1 h2))).1,fun a b h1 h2=>?_,fun a b i h1 h2=>?_⟩,fun j hj i hi=>?_⟩
 ·show(L.getD (num a b) (0,0)).1=_
  rw[hg a b h1 h2]
 ·show(L.getD (num a b) (0,0)).2.testBit i=true↔_
  rw[hg a b h1 h2,bf_bit,Bool.and_eq_true,decide_eq_true_iff,std_iff]
  exact⟨fun h=>h.2,fun h=>⟨by have:=h.1;omega,h⟩⟩
 ·obtain⟨a,b,h1,h2,h3⟩:=h.all j L[j] (List.getElem?_eq_getElem hj)
  have e:L.getD j (0,0)=(b-a,bf (Std l a b) 25):=by rw[List.getD_eq_getElem?_getD,List.getElem?_eq_getElem hj,h3];rfl
  have hi':(L.getD j (0,0)).2.testBit i=true:=hi
  show i+(L.getD j (0,0)).1<=_
  rw[e]at hi' ⊢
  rw[bf_bit,Bool.and_eq_true]at hi'
  exact(std_iff.1 hi'.2).1
end Go.Proofs.YtldiemjlpnachaaGreatDoor
namespace Go.Proofs.YtldiemjlpnachaaGreatDoor
open Go.RowKit
theorem info_part:(Tryz.prog.info? 206).map (fun i=>(i.zero,i.size,i.bytes))=some (some (.agg #[.int .i64 0,.int .u32 0]),2,16):=by kernel_rfl
theorem uPart:Tryz.prog.underlying 173=some (.slice 206):=by kernel_rfl
def pcs(L:List (Nat×Nat)):List Value:=L.flatMap fun z=> [.int .i64 z.1,.int .u32 z.2]
theorem pcs_snoc(L:List (Nat×Nat))(z:Nat×Nat):pcs (L++ [z])=pcs L++ [.int .i64 z.1,.int .u32 z.2]:=by
 unfold pcs
 simp
theorem pcs_get:∀(L:List (Nat×Nat)) (j:Nat) z,L[j]?=some z->(pcs L)[j*2]?=some (.int .i64 z.1)/\(pcs L)[j*2+1]?=some (.int .u32 z.2)
 | [],j,z,h=>by simp at h
 |x::r,0,z,h=>by simp at h;subst h;exact⟨rfl,rfl⟩
 |x::r,j+1,z,h=>by
  have:=pcs_get r j z (by simpa using h)
  rw[show(j+1)*2=j*2+1+1 by omega]
  exact this
structure Pm(w:World)(B:Nat)(num:Nat->Nat->Nat)(L:List (Nat×Nat)):Prop where
 c0:∃v,w.cell? ⟨B,0,none⟩=some v/\w.ownsRow (B+1) 206 2 v L.length (pcs L)
 n:∀a b,a<=24->b<=24->w.cell? ⟨B,1+a*25+b,none⟩=some (.int .i64 (num a b))
 f:∀i,w.frozen? ⟨B,i,none⟩=false
theorem Pm.num{w:World}{B:Nat}{num:Nat->Nat->Nat}{L:List (Nat×Nat)}(m:Pm w B num L){a b:Nat}(ha:a<=24)(hb:b<=24)(v:Nat):Pm (w.setCell ⟨B,1+a*25+b,none⟩ (.int .i64 v)) B (upN num a b v) L:=by
 obtain⟨u,hu,ho⟩:=m.c0
 refine⟨⟨u,?_,ownsRow_setCell_other ho (fun e=>by have:=(ho.lt B e).1;omega) _⟩,fun x y hx hy=>?_,fun i=>by rw[World.frozen?_setCell];exact m.f i⟩
 ·rw[World.cell?_setCell_other _ _ _ _ (by rintro e;injection e with _ e2;omega)]
  exact hu
 ·unfold upN
  by_cases e:x=a/\y=b
  ·rw[if_pos e,e.1,e.2]
   exact World.cell?_setCell_same _ _ _ (m.n a b ha hb)
  ·rw[if_neg e,World.cell?_setCell_other _ _ _ _ (by rintro x;injection x with _ x2;omega)]
   exact m.n x y hx hy
theorem Pm.push{w w1:World}{B:Nat}{num:Nat->Nat->Nat}{L:List (Nat×Nat)}(m:Pm w B num L){u r0:Value}{g cap:Nat}{o:Obj}{z:Nat×Nat}(hu:w.cell? ⟨B,0,none⟩=some u)
  (hown1:w1.ownsRow (B+1) 206 2 (.slice (some ⟨g,0,none⟩) (L.length+1) cap) (L.length+1) (pcs L++ [.int .i64 z.1,.int .u32 z.2]))(hgrow:(w.alloc o).grownBy w1 u.ownBlock)(h1:w1.cell? ⟨B,0,none⟩=some r0):
  Pm (w1.setCell ⟨B,0,none⟩ (.slice (some ⟨g,0,none⟩) (L.length+1) cap)) B num (L++ [z])/\Below B w (w1.setCell ⟨B,0,none⟩ (.slice (some ⟨g,0,none⟩) (L.length+1) cap)):=by
 have lB:=World.block_lt_of_cell? w _ hu
 simp only at lB
 obtain⟨u',hu',ho⟩:=m.c0
 rw[hu]at hu'
 cases hu'
 have ulo:∀k,u.ownBlock=some k->B+1<=k:=fun k hk=>(ho.lt k hk).1
 have hgs:=hgrow.size
 simp only[World.size_alloc]at hgs
 have blk1:∀k,k<w.heap.size->u.ownBlock≠some k->w1.heap[k]?=w.heap[k]?:=fun k hk hn=>(hgrow.block k (by simp;omega) (Ne.symm hn)).trans (Below.heap_alloc _ _ _ hk)
 have uB:u.ownBlock≠some B:=fun e=>by have:=ulo _ e;omega
 refine⟨⟨⟨_,World.cell?_setCell_same _ _ _ h1,?_⟩,fun a b ha hb=>?_,fun i=>?_⟩,⟨hgrow.os,hgrow.tape,hgrow.output,by simp[World.setCell];omega,fun k hk=>?_⟩⟩
 ·rw[pcs_snoc,List.length_append,List.length_singleton]
  exact ownsRow_setCell_other hown1 (fun e=>by have:=(hown1.lt B e).1;omega) _
 ·rw[World.cell?_setCell_other _ _ _ _ (by rintro x;injection x with _ x2;omega),World.cell?_of_block (blk1 B lB uB)]
  exact m.n a b ha hb
 ·rw[World.frozen?_setCell,World.frozen?_of_block (blk1 B lB uB)]
  exact m.f i
 ·rw[Below.heap_setCell _ _ _ _ (by show k≠B;omega)]
  exact blk1 k (by omega) (fun e=>by have:=ulo _ e;omega)
theorem below_put{N:Nat}{w w':World}(h:Below N w w')(b i:Nat)(hb:N<=b)(v:Value):Below N w (w'.setCell ⟨b,i,none⟩ v):=h.setCell (by exact hb) v
def AddP(w w':World)(B:Nat)(num:Nat->Nat->Nat)(L:List (Nat×Nat))(a z p:Nat):Prop:=
 Below B w w'/\((∃i,i<a/\p.testBit i=true/\Pm w' B (upN num a (a+z) (num i (i+z))) L)\/((∀i,i<a->p.testBit i=false)/\Pm w' B (upN num a (a+z) L.length) (L++ [(z,p)])))
theorem Pm.drew{w:World}{B:Nat}{num:Nat->Nat->Nat}{L:List (Nat×Nat)}(m:Pm w B num L):Pm w.drew B num L:=⟨m.c0,m.n,m.f⟩
theorem AddP.drew{w w':World}{B:Nat}{num:Nat->Nat->Nat}{L:List (Nat×Nat)}{a z p:Nat}(h:AddP w w' B num L a z p):AddP w w'.drew B num L a z p:=by
 obtain⟨h1,h2⟩:=h
 refine⟨h1.drew,?_⟩
 rcases h2 with⟨i,h3,h4,h5⟩|⟨h3,h4⟩
 ·exact .inl ⟨i,h3,h4,h5.drew⟩
 ·exact .inr ⟨h3,h4.drew⟩
theorem padd_any{w:World}{B:Nat}{num:Nat->Nat->Nat}{L:List (Nat×Nat)}(m:Pm w B num L){a z p:Nat}(haz:a+z<=24)(hp:p<2^25)(hL:L.length<=400)(hnm:∀x y,x<=24->y<=24->num x y<=400):
  Calls Tryz.prog 107 #[.pointer (some ⟨B,0,none⟩),.int .i64 a,.int .i64 z,.int .u32 p] w fun e w'=>e= .returned (.tuple #[])/\AddP w w' B num L a z p:=by
 have Hm:=hd m
 have Hp:=hd hp
 obtain⟨u,c0,ho⟩:=m.c0
 obtain⟨ua,uc,rfl⟩:=owns_shape ho
 have lB:=World.block_lt_of_cell? w _ c0
 simp only at lB
 have f0:=m.f 0
 have ft:=m.f (1+a*25+(a+z))
 have ct:=m.n a (a+z) (by omega) (by omega)
 have Ho:=hd ho
 have ha0:(0:Int)<=(a:Int):=by omega
 have ha1:(a:Int)<25:=by omega
 have hz0:(0:Int)<=(a:Int)+(z:Int):=by omega
 have hz1:(a:Int)+(z:Int)<25:=by omega
 have hzb:(z:Int)<=24:=by omega
 have hLi:(L.length:Int)<=400:=by omega
 have Hnm:=hd hnm
 clear m hp ho hnm
 go_enter Tryz.func107,Tryz.ntmps107
 go_wp2
 go_loopg [8] 26 (fun f iv wr=>∃t:Nat,iv= .int .i64 t/\t<=a/\25<t+f/\wr=w/\Hid (∀i,i<t->p.testBit i=false))
 case atStart=>exact⟨0,rfl,by omega,by omega,rfl,hd (fun i hi=>absurd hi (by omega))⟩
 case round=>
  obtain⟨t,rfl,ht,hf,rfl,HN⟩:=hrel
  have ht0:(0:Int)<=(t:Int):=by omega
  by_cases hlt:t<a
  ·have hlt1:(t:Int)<(a:Int):=by omega
   have Hh:=hd (phas_any wr p Hp.out t t rfl (by omega) _ rfl)
   cases hbit:p.testBit t
   ·rw[hbit]at Hh
    have HN1:Hid (∀i,i<t+1->p.testBit i=false):=hd (fun i hi=>by
     rcases Nat.lt_or_ge i t with h|h
     ·exact HN.out i h
     ·obtain rfl:i=t:=by omega
      exact hbit)
    clear hbit
    go_wp2_with (go_at_call 110;refine Hh.out.mono ?_;rintro e w' ⟨rfl,rfl⟩)
    go_roundg (gk-1)
    case measure=>omega
    case rel=>exact⟨t+1,by go_num,by omega,by omega,rfl,HN1⟩
   ·rw[hbit]at Hh
    have cn:=Hm.out.n t (t+z) (by omega) (by omega)
    have hnb:((num t (t+z):Nat):Int)<=400:=by have:=Hnm.out t (t+z) (by omega) (by omega);omega
    have ht25:(t:Int)<25:=by omega
    have htz0:(0:Int)<=(t:Int)+(z:Int):=by omega
    have htz1:(t:Int)+(z:Int)<25:=by omega
    have HF:Hid (AddP wr (wr.setCell ⟨B,1+a*25+(a+z),none⟩ (.int .i64 (num t (t+z):Nat))) B num L a z p):=hd ⟨below_put (Below.refl _ _) _ _ (Nat.le_refl _) _,.inl ⟨t,hlt,hbit,Hm.out.num (by omega) (by omega) _⟩⟩
    clear hbit
    go_wp2_with (go_at_call 110;refine Hh.out.mono ?_;rintro e w' ⟨rfl,rfl⟩)
    go_region
    go_wp2
    refine bodyPost_ret (v:= .tuple #[]) (by simp[results,Tryz.results107,go_sem]) rfl ⟨rfl,?_⟩
    exact HF.out.drew
  ·obtain rfl:t=a:=by omega
   have hn25:¬(t:Int)<(t:Int):=by omega
   go_wp2_with fail
   go_region
   have HM1:=hd (Hm.out.num (a:=t) (b:=t+z) (by omega) (by omega) L.length).drew
   have HB1:Hid (Below B wr (wr.setCell ⟨B,1+t*25+(t+z),none⟩ (.int .i64 L.length)).drew):=hd (below_put (Below.refl _ _) _ _ (Nat.le_refl _) _).drew
   have c01:(wr.setCell ⟨B,1+t*25+(t+z),none⟩ (.int .i64 L.length)).drew.cell? ⟨B,0,none⟩=some (.slice ua L.length uc):=(World.cell?_setCell_other _ _ _ _ (by rintro e;injection e with _ e2;omega)).trans c0
   have f01:(wr.setCell ⟨B,1+t*25+(t+z),none⟩ (.int .i64 L.length)).drew.frozen? ⟨B,0,none⟩=false:=HM1.out.f 0
   have HO1:Hid ((wr.setCell ⟨B,1+t*25+(t+z),none⟩ (.int .i64 L.length)).drew.ownsRow (B+1) 206 2 (.slice ua L.length uc) L.length (pcs L)):=hd (by
    obtain⟨u',hu',ho'⟩:=HM1.out.c0
    rw[c01]at hu'
    cases hu'
    exact ho')
   have lB1:B<(wr.setCell ⟨B,1+t*25+(t+z),none⟩ (.int .i64 L.length)).drew.heap.size:=World.block_lt_of_cell? _ _ c01
   generalize (wr.setCell ⟨B,1+t*25+(t+z),none⟩ (.int .i64 L.length)).drew=W0 at*
   have agB:(Value.slice ua L.length uc).ownBlock≠some B:=fun e=>by have:=(HO1.out.lt B e).1;omega
   have HP:Hid (∀(w1:World) (g cap:Nat) (o:Obj),w1.ownsRow (B+1) 206 2 (.slice (some ⟨g,0,none⟩) (L.length+1) cap) (L.length+1) (pcs L++ [.int .i64 z,.int .u32 p])->(W0.alloc o).grownBy w1 (Value.slice ua L.length uc).ownBlock->w1.cell? ⟨B,0,none⟩=some (.slice ua L.length uc)->AddP wr (w1.setCell ⟨B,0,none⟩ (.slice (some ⟨g,0,none⟩) (L.length+1) cap)) B num L t z p):=hd (fun w1 g cap o h1 h2 h3=>by
    have:=HM1.out.push (z:=(z,p)) c01 h1 h2 h3
    exact⟨HB1.out.trans this.2,.inr ⟨HN.out,this.1⟩⟩)
   obtain⟨i0,hi0,hzz0,hzz1,hzz2⟩:=info_parts info_part
   clear Hm c0 f0 ft ct Ho lB HM1 HB1 Hnm
   go_wp2_with
    (refine wpList_append_lies _ (by rfl) _ _ _ (by rfl) (B+1) 206 i0 _ 2 16 uPart hi0 hzz0 hzz1 hzz2 rfl (by omega) (.slice ua L.length uc) L.length (pcs L) (by rfl) (HO1.out.alloc _)
      ⟨W0.heap.size,0,none⟩ 1 1 [.int .i64 z,.int .u32 p] (by rfl) (by rfl) (World.news_of_block (cs:= #[.int .i64 z,.int .u32 p]) (t:=206) (fr:=(0,0)) (heap_alloc_new W0 _)) (by simp[Value.oneCell'])
      (by omega) (by unfold maxLen;omega) (by omega) (by simp;omega) (W0.heap.size+1) (by simp) ?_
     intro g cap w1 hown1 hgrow hat hlt
     have r0:w1.cell? ⟨B,0,none⟩=some (.slice ua L.length uc):=(hgrow.cell_far _ (by simp;omega) (Ne.symm agB)).trans ((World.cell?_alloc_lt _ _ _ lB1).trans c01)
     have rf0:w1.frozen? ⟨B,0,none⟩=false:=(hgrow.frozen_far _ (by simp;omega) (Ne.symm agB)).trans ((World.frozen?_alloc_old _ _ _ (by show B≠_;omega)).trans f01)
     have HD:=hd (HP.out w1 g cap _ hown1 hgrow r0)
     clear hown1 hgrow hat hlt)
   go_end0
   exact⟨rfl,HD.out⟩
end Go.Proofs.YtldiemjlpnachaaGreatDoor
namespace Go.Proofs.YtldiemjlpnachaaGreatDoor
open Go.RowKit
theorem bf_part0{l:List UInt8}(hl:l.length<=24)(a:Nat):bf (Std l a a) 25=2^(l.length+1)-1:=by
 apply Nat.eq_of_testBit_eq
 intro i
 rw[bf_bit,Nat.testBit_two_pow_sub_one]
 unfold Std
 rw[Nat.sub_self,List.range_zero,List.all_nil,Bool.and_true,Nat.add_zero]
 rw[Bool.eq_iff_iff,Bool.and_eq_true,decide_eq_true_iff,decide_eq_true_iff,decide_eq_true_iff]
 omega
theorem bf_part1{l:List UInt8}{a z:Nat}(h:a+z<l.length):bf (Std l a (a+z)) 25&&&(bf (fun i=>decide (ch l i=ch l (a+z))) l.length>>>z)=bf (Std l a (a+(z+1))) 25:=by
 apply Nat.eq_of_testBit_eq
 intro i
 rw[Nat.testBit_and,Nat.testBit_shiftRight,bf_bit,bf_bit,bf_bit,Bool.eq_iff_iff]
 simp only[Bool.and_eq_true,decide_eq_true_iff,std_iff]
 unfold Stands
 rw[show a+z-a=z by omega,show a+(z+1)-a=z+1 by omega]
 constructor
 ·rintro⟨⟨h1,h2,h3⟩,h4,h5⟩
  refine⟨h1,by omega,fun t ht=>?_⟩
  rcases Nat.lt_or_ge t z with h6|h6
  ·exact h3 t h6
  ·obtain rfl:t=z:=by omega
   rw[Nat.add_comm i t]
   exact h5.symm
 ·rintro⟨h1,h2,h3⟩
  refine⟨⟨h1,by omega,fun t ht=>h3 t (by omega)⟩,by omega,?_⟩
  rw[Nat.add_comm z i]
  exact(h3 z (by omega)).symm
theorem shr_nat{z k:Nat}:((z:Int)/2^k)=((z>>>k:Nat):Int):=by
 rw[Nat.shiftRight_eq_div_pow,Int.natCast_ediv,Int.natCast_pow]
 rfl
def tri:Nat->Nat
 |0=>0
 |t+1=>tri t+(25-t)
theorem tri_le:∀t,t<=25->tri t<=325:=by decide
def ptL(v:Value)(num:Nat->Nat->Nat):List Value:=v::(List.range 625).map fun k=> .int .i64 (num (k/25) (k%25))
theorem ptL_len(v:Value)(num:Nat->Nat->Nat):(ptL v num).length=626:=by simp[ptL]
theorem ptL_num(v:Value)(num:Nat->Nat->Nat){a b:Nat}(ha:a<=24)(hb:b<=24):(ptL v num)[1+a*25+b]?=some (.int .i64 (num a b)):=by
 unfold ptL
 rw[show 1+a*25+b=(a*25+b)+1 by omega,List.getElem?_cons_succ,List.getElem?_map,List.getElem?_range (by omega)]
 rw[Option.map_some,show(a*25+b)/25=a by omega,show(a*25+b)%25=b by omega]
theorem Pm.range{w:World}{B:Nat}{num:Nat->Nat->Nat}{L:List (Nat×Nat)}(m:Pm w B num L){v:Value}(hv:w.cell? ⟨B,0,none⟩=some v):w.rangeAt B 0 (ptL v num):=by
 intro j u hu
 unfold ptL at hu
 rw[Nat.zero_add]
 rcases Nat.eq_zero_or_pos j with rfl|h0
 ·rw[List.getElem?_cons_zero]at hu
  cases hu
  exact hv
 ·obtain⟨k,rfl⟩:∃k,j=k+1:=⟨j-1,by omega⟩
  rw[List.getElem?_cons_succ,List.getElem?_map]at hu
  by_cases hk:k<625
  ·rw[List.getElem?_range hk]at hu
   cases hu
   have:=m.n (k/25) (k%25) (by omega) (by omega)
   rw[show 1+k/25*25+k%25=k+1 by omega]at this
   exact this
  ·rw[List.getElem?_eq_none (by simp;omega)]at hu
   cases hu
def ptC:Array Value:= #[.slice none 0 0]++Array.replicate 625 (.int .i64 0)
theorem run_p0(w:World):(Instr.build 177 #[]).run Tryz.prog w= .ok (.agg ptC) w:=by kernel_rfl
theorem run_pa(w:World):(Instr.alloc 177 true (.tuple #[])).run Tryz.prog w= .ok (.pointer (some ⟨w.heap.size,0,none⟩)) (w.alloc (.cells ptC 177)):=by kernel_rfl
theorem info_pts:(Tryz.prog.info? 177).map (·.size)=some 626:=by kernel_rfl
theorem und_pts:∃d,Tryz.prog.underlying 177=some d/\d.isRow=true:=⟨_,Tryz.underlying177,rfl⟩
theorem ptC_size:ptC.size=626:=by simp[ptC]
theorem ptC_one:ptC.all (·.oneCell')=true:=by
 rw[Array.all_eq_true_iff_forall_mem]
 intro v hv
 unfold ptC at hv
 rcases Array.mem_append.1 hv with hv|hv
 ·simp at hv;subst hv;rfl
 ·rw[Array.mem_replicate]at hv;rw[hv.2];rfl
theorem ptL_one(v:Value)(num:Nat->Nat->Nat)(hv:v.oneCell'=true):(ptL v num).toArray.all (·.oneCell')=true:=by
 apply all_oneCell_toArray
 intro x hx
 unfold ptL at hx
 rcases List.mem_cons.1 hx with rfl|hx
 ·exact hv
 ·obtain⟨k,_,rfl⟩:=List.mem_map.1 hx
  rfl
theorem heap_setRow_far(w:World)(g k:Nat)(c:Array Value)(h:k≠g):(w.setRow g c).heap[k]?=w.heap[k]?:=by
 simp only[World.setRow]
 rw[Array.getElem?_modify,if_neg (Ne.symm h)]
theorem heap_setRow_at(w:World)(g:Nat)(c old:Array Value)(t:TypeId)(h:w.heap[g]?=some (.cells old t (0,0))):(w.setRow g c).heap[g]?=some (.cells c t (0,0)):=by
 simp only[World.setRow]
 rw[Array.getElem?_modify,if_pos rfl,h]
 rfl
theorem ptC_get{k:Nat}(h:k<625):ptC[k+1]?=some (.int .i64 0):=by
 unfold ptC
 rw[Array.getElem?_append_right (by simp)]
 simp[h]
theorem Pm.first(w:World):Pm (w.alloc (.cells ptC 177)) w.heap.size (fun _ _=>0) []:=by
 have hh:=heap_alloc_new w (.cells ptC 177)
 refine⟨⟨.slice none 0 0,by rw[cell_of_row _ _ _ _ _ _ hh];kernel_rfl,World.ownsRow_nil _ _ _ _⟩,fun a b ha hb=>?_,fun i=>frozen_blk hh⟩
 rw[cell_of_row _ _ _ _ _ _ hh,show 1+a*25+b=(a*25+b)+1 by omega,ptC_get (by omega)]
 rfl
section
variable {ops : Array Oper} {rest : List Oper} {o : Oper} {a : Act} {w : World} {Q : Exit → Act → World → Prop}
end
structure Pth(w W:World)(B:Nat)(l:List UInt8)(num:Nat->Nat->Nat)(L:List (Nat×Nat))(t e:Nat):Prop where
 bl:Below B w W
 m:Pm W B num L
 v:PIv l num L (fun x y=>x<t\/(x=t/\y<e))
 nm:∀x y,x<=24->y<=24->num x y<=L.length
 len:L.length<=tri t+(e-t)
theorem PIv.mono{l:List UInt8}{num:Nat->Nat->Nat}{L:List (Nat×Nat)}{dn dn':Nat->Nat->Prop}(h:PIv l num L dn)(k:∀a b,a<=b->b<=l.length->dn' a b->dn a b):PIv l num L dn':=
 ⟨fun a b h1 h2 h3=>h.ok a b h1 h2 (k a b h1 h2 h3),h.all⟩
theorem Pth.add{w W W':World}{B:Nat}{l:List UInt8}{num:Nat->Nat->Nat}{L:List (Nat×Nat)}{t e z:Nat}(h:Pth w W B l num L t e)(hz:t+z=e)(he:e<=l.length)(a:AddP W W' B num L t z (bf (Std l t (t+z)) 25)):∃num' L',Pth w W' B l num' L' t (e+1):=by
 obtain⟨hb,a⟩:=a
 rcases a with⟨i,h1,h2,h3⟩|⟨h1,h2⟩
 ·rw[bf_bit,Bool.and_eq_true]at h2
  refine⟨_,L,⟨h.bl.trans hb,h3,(h.v.old (.inl h1) h2.2).mono (fun x y _ _ hd=>?_),fun x y hx hy=>?_,by have:=h.len;omega⟩⟩
  ·rcases hd with hd|hd
   ·exact .inl (.inl hd)
   ·by_cases hy:y<e
    ·exact .inl (.inr ⟨hd.1,hy⟩)
    ·exact .inr ⟨hd.1,by omega⟩
  ·unfold upN
   split
   ·have:=(std_iff.1 h2.2).1
    exact h.nm i (i+z) (by omega) (by omega)
   ·exact h.nm x y hx hy
 ·refine⟨_,_,⟨h.bl.trans hb,h2,(h.v.new (a:=t) (z:=z) (by omega)).mono (fun x y _ _ hd=>?_),fun x y hx hy=>?_,by have:=h.len;simp;omega⟩⟩
  ·rcases hd with hd|hd
   ·exact .inl (.inl hd)
   ·by_cases hy:y<e
    ·exact .inl (.inr ⟨hd.1,hy⟩)
    ·exact .inr ⟨hd.1,by omega⟩
  ·unfold upN
   rw[List.length_append,List.length_singleton]
   split
   ·omega
   ·have:=h.nm x y hx hy;omega
theorem Pth.next{w W:World}{B:Nat}{l:List UInt8}{num:Nat->Nat->Nat}{L:List (Nat×Nat)}{t:Nat}(h:Pth w W B l num L t (l.length+1))(hl:l.length<=24):Pth w W B l num L (t+1) (t+1):=
 ⟨h.bl,h.m,h.v.mono (fun x y _ hy hd=>by
  rcases hd with hd|hd
  ·rcases Nat.lt_or_ge x t with h1|h1
   ·exact .inl h1
   ·exact .inr ⟨by omega,by omega⟩
  ·omega),h.nm,by
  have:=h.len
  show L.length<=tri t+(25-t)+(t+1-(t+1))
  omega⟩
theorem Pth.drewN{w W:World}{B:Nat}{l:List UInt8}{num:Nat->Nat->Nat}{L:List (Nat×Nat)}{t e:Nat}(h:Pth w W B l num L t e)(n:Nat):Pth w (W.drewN n) B l num L t e:=
 ⟨⟨h.bl.os,h.bl.tape,h.bl.output,h.bl.size,h.bl.block⟩,⟨h.m.c0,h.m.n,h.m.f⟩,h.v,h.nm,h.len⟩
def PartsP(w w':World)(l:List UInt8)(e:Ending):Prop:=
 Below w.heap.size w w'/\∃(num:Nat->Nat->Nat) (L:List (Nat×Nat)) (g c:Nat),e= .returned (.agg (ptL (.slice (some ⟨g,0,none⟩) L.length c) num).toArray)/\w.heap.size<=g/\g<w'.heap.size/\(∀(j:Nat) z,L[j]?=some z->w'.cell? ⟨g,j*2,none⟩=some (.int .i64 z.1)/\w'.cell? ⟨g,j*2+1,none⟩=some (.int .u32 z.2))/\
  PIv l num L (fun _ _=>True)/\L.length<=325/\(∀x y,x<=24->y<=24->num x y<=325)
theorem Pth.done{w w1 W:World}{B R:Nat}{l:List UInt8}{num:Nat->Nat->Nat}{L:List (Nat×Nat)}(hB:B=w.heap.size+1)(hR:R=w.heap.size)(hw:Below w.heap.size w w1)(h:Pth w1 W B l num L (l.length+1) (l.length+1))(hl:l.length<=24){v:Value}(hv:W.cell? ⟨B,0,none⟩=some v):PartsP w (W.setRow R (ptL v num).toArray) l (.returned (.agg (ptL v num).toArray)):=by
 subst hB hR
 have hlen:L.length<=325:=by have:=h.len;have:=tri_le (l.length+1) (by omega);omega
 have hne:0<L.length:=by
  have:=h.v.ok 0 0 (Nat.le_refl _) (Nat.zero_le _) (.inl (by omega))
  have:=(List.getElem?_eq_some_iff.1 this).1
  omega
 obtain⟨u,hu,ho⟩:=h.m.c0
 rw[hv]at hu
 cases hu
 obtain⟨g,cap,rfl,hb,hlt⟩:=ho.form hne
 have far:∀k,k≠w.heap.size->(W.setRow w.heap.size (ptL (.slice (some ⟨g,0,none⟩) L.length cap) num).toArray).heap[k]?=W.heap[k]?:=fun k hk=>heap_setRow_far _ _ _ _ hk
 have hsz:(W.setRow w.heap.size (ptL (.slice (some ⟨g,0,none⟩) L.length cap) num).toArray).heap.size=W.heap.size:=by simp[World.setRow]
 refine⟨⟨?_,?_,?_,?_,fun k hk=>?_⟩,num,L,g,cap,rfl,by omega,by rw[hsz];exact hlt,fun j z hj=>?_,h.v.mono (fun x y h1 h2 _=> .inl (by omega)),hlen,fun x y hx hy=>by have:=h.nm x y hx hy;omega⟩
 ·exact h.bl.os.trans hw.os
 ·exact h.bl.tape.trans hw.tape
 ·exact h.bl.output.trans hw.output
 ·rw[hsz];exact Nat.le_trans hw.size h.bl.size
 ·rw[far k (by omega)]
  exact(h.bl.block k (by omega)).trans (hw.block k hk)
 ·obtain⟨p1,p2⟩:=pcs_get L j z hj
  exact⟨(World.cell?_of_block (far g (by omega))).trans (owns_cell ho _ _ p1),(World.cell?_of_block (far g (by omega))).trans (owns_cell ho _ _ p2)⟩
end Go.Proofs.YtldiemjlpnachaaGreatDoor
namespace Go.Proofs.YtldiemjlpnachaaGreatDoor
open Go.RowKit
theorem pt_ex:∃C:Array Value,C.size=626/\C.all (·.oneCell')=true/\(∀w,(Instr.build 177 #[]).run Tryz.prog w= .ok (.agg C) w)/\(∀w:World,(Instr.alloc 177 true (.tuple #[])).run Tryz.prog w= .ok (.pointer (some ⟨w.heap.size,0,none⟩)) (w.alloc (.cells C 177)))/\∀w:World,Pm (w.alloc (.cells C 177)) w.heap.size (fun _ _=>0) []:=
 ⟨ptC,ptC_size,ptC_one,run_p0,run_pa,Pm.first⟩
section
variable {ops : Array Oper} {rest : List Oper} {o : Oper} {a : Act} {w : World} {Q : Exit → Act → World → Prop}
theorem wp_q0(C:Array Value)(hr:∀w,(Instr.build 177 #[]).run Tryz.prog w= .ok (.agg C) w)(hg:o.guard=none)(ho:o.op= .build 177 #[])(h:wpList Tryz.prog ops Q rest (a.put o.dst (.agg C)) w):wpList Tryz.prog ops Q (o::rest) a w:=by
 refine wpList_plain hg fun K hK=>?_
 unfold Oper.wp execOp
 simp only[ho,Sem.run_bind]
 rw[show((#[]:Array (Nat×Operand)).map fun(x:Nat×Operand)=>(x.1,a.eval x.2))= #[]from by kernel_rfl,hr]
 exact hK _ _ h
theorem wp_qa(C:Array Value)(hr:∀w:World,(Instr.alloc 177 true (.tuple #[])).run Tryz.prog w= .ok (.pointer (some ⟨w.heap.size,0,none⟩)) (w.alloc (.cells C 177)))(hg:o.guard=none)(ho:o.op= .alloc 177)(h:wpList Tryz.prog ops Q rest (a.put o.dst (.pointer (some ⟨w.heap.size,0,none⟩))) (w.alloc (.cells C 177))):wpList Tryz.prog ops Q (o::rest) a w:=by
 refine wpList_plain hg fun K hK=>?_
 unfold Oper.wp execOp
 simp only[ho,Sem.run_bind]
 rw[hr]
 exact hK _ _ h
end
theorem results_cell{P:Program}{fn:Func}{a:Nat}{t:TypeId}{tmps:Array Value}{w:World}{v:Value}{b:Addr}(hf:fn.results= #[.cell a t])(ht:tmps[a]?.getD undef= .pointer (some b))(hl:(loadVar t b).run P w= .ok v w):(results fn tmps).run P w= .ok v w:=by
 unfold results
 rw[hf]
 generalize loadVar=ld at hl ⊢
 simp[go_sem,ht,hl]
theorem Pth.eqw{w W W':World}{B:Nat}{l:List UInt8}{num:Nat->Nat->Nat}{L:List (Nat×Nat)}{t e:Nat}(h:Pth w W B l num L t e)(k:Eqw W W'):Pth w W' B l num L t e:=by
 have hb:∀i:Nat,W'.heap[i]?=W.heap[i]?:=fun(i:Nat)=>by rw[k.heap]
 obtain⟨u,hu,ho⟩:=h.m.c0
 exact⟨⟨k.os.trans h.bl.os,k.tape.trans h.bl.tape,k.output.trans h.bl.output,by rw[k.heap];exact h.bl.size,fun i hi=>(hb i).trans (h.bl.block i hi)⟩,⟨⟨u,(World.cell?_of_block (hb B)).trans hu,owns_same ho (fun i _=>hb i)⟩,fun a b ha hb'=>(World.cell?_of_block (hb B)).trans (h.m.n a b ha hb'),fun i=>(World.frozen?_of_block (hb B)).trans (h.m.f i)⟩,h.v,h.nm,h.len⟩
theorem partsOf_any(w:World)(s:ByteArray)(hs:s.size<=24):
  Calls Tryz.prog 104 #[.string s] w fun e w'=>PartsP w w' s.data.toList e:=by
 have hs1:(s.size:Int)<=24:=by omega
 have Hl:=hd (len_data s)
 obtain⟨C,hCs,hC1,hC0,hCa,hCm⟩:=pt_ex
 have HCs:=hd hCs
 have HC1:=hd hC1
 have HC0:=hd hC0
 have HCa:=hd hCa
 have HCm:=hd hCm
 clear hCs hC1 hC0 hCa hCm
 go_enter Tryz.func104,Tryz.ntmps104
 go_upto_region 2 with(first|refine wp_q0 C HC0.out rfl rfl ?_|refine wp_qa C HCa.out rfl rfl ?_|(refine wpList_store_row rfl 177 (.tmp 3) (.tmp 9) rfl (w.alloc (.cells C 177)).heap.size C (by rfl) (by rfl) 177 C (heap_alloc_new _ _) (by rw[HCs.out];exact info_pts) rfl HC1.out ?_;rw[World.setRow_alloc_new]))
 have HP0:Hid (Pth ((w.alloc (.cells C 177)).alloc (.cells C 177)) ((w.alloc (.cells C 177)).alloc (.cells C 177)) (w.alloc (.cells C 177)).heap.size s.data.toList (fun _ _=>0) [] 0 0):=hd ⟨Below.refl _ _,HCm.out _,⟨fun a b h1 h2 h3=>by omega,fun j z h=>by simp at h⟩,fun _ _ _ _=>Nat.le_refl _,Nat.zero_le _⟩
 have HW:Hid (Below w.heap.size w ((w.alloc (.cells C 177)).alloc (.cells C 177))):=hd (((Below.refl _ _).alloc (Nat.le_refl _) _).alloc (by simp) _)
 have HR:Hid (((w.alloc (.cells C 177)).alloc (.cells C 177)).heap[w.heap.size]?=some (.cells C 177 (0,0))):=hd ((Below.heap_alloc _ _ _ (by simp)).trans (heap_alloc_new w _))
 have HBe:Hid ((w.alloc (.cells C 177)).heap.size=w.heap.size+1):=hd (by simp)
 generalize ((w.alloc (.cells C 177)).alloc (.cells C 177))=W1 at*
 generalize (w.alloc (.cells C 177)).heap.size=B at*
 generalize hRe:w.heap.size=R at*
 have HRe:=hd hRe
 clear hRe HC0 HCa HCm
 go_wp2_with fail
 go_loopg [4] (s.size+2) (fun k iv wr=>∃(t:Nat) (num:Nat->Nat->Nat) (L:List (Nat×Nat)),iv= .int .i64 t/\t<=s.size+1/\s.size+1<t+k/\Hid (Pth W1 wr B s.data.toList num L t t))
 case atStart=>exact⟨0,_,_,rfl,Nat.zero_le _,by omega,HP0⟩
 case round=>
  obtain⟨t,num,L,rfl,ht,hf,HP⟩:=hrel
  have ht0:(0:Int)<=(t:Int):=by omega
  by_cases hlt:t<=s.size
  ·have hlt1:(t:Int)<=(s.size:Int):=by omega
   have Hon:=hd (fun W:World=>only_any W ((s.size:Int)+1) (s.size+1) (by omega) (show s.size+1<=25 by omega))
   have Hz0:Hid (bf (Std s.data.toList t t) 25=2^(s.size+1)-1):=hd (by have:=bf_part0 (l:=s.data.toList) (by rw[Hl.out];exact hs) t;rw[Hl.out]at this;exact this)
   have htw:1<=2^(s.size+1)/\2^(s.size+1)<=2^25:=⟨Nat.one_le_two_pow,Nat.pow_le_pow_right (by omega) (by omega)⟩
   generalize 2^(s.size+1)=tw at*
   obtain⟨gf,rfl⟩:∃f,gk=f+1:=⟨gk-1,by omega⟩
   have htw1:(1:Int)<=(tw:Int):=by omega
   have htw2:(tw:Int)<=33554432:=by omega
   go_wp2_with fail
   refine(Hon.out _).mono ?_
   rintro e1 w1 ⟨rfl,rfl⟩
   go_wp2_with fail
   have Htl:Hid (L.length<=325):=hd (by have:=HP.out.len;have:=tri_le t (by omega);omega)
   have Hadd:Hid (Calls Tryz.prog 107 #[.pointer (some ⟨B,0,none⟩),.int .i64 t,.int .i64 0,.int .u32 ((tw:Int)-1)] w1 fun e w'=>e= .returned (.tuple #[])/\AddP w1 w' B num L t 0 (bf (Std s.data.toList t (t+0)) 25)):=hd (by
    have:=padd_any HP.out.m (a:=t) (z:=0) (p:=bf (Std s.data.toList t (t+0)) 25) (by omega) (bf_lt _ _) (by have:=Htl.out;omega) (fun x y hx hy=>by have:=HP.out.nm x y hx hy;have:=Htl.out;omega)
    have e:((bf (Std s.data.toList t (t+0)) 25:Nat):Int)=(tw:Int)-1:=by rw[Nat.add_zero,Hz0.out];omega
    rw[e]at this
    exact this)
   refine Hadd.out.mono ?_
   rintro e2 w2 ⟨rfl,hadd⟩
   obtain⟨num2,L2,hp2⟩:=HP.out.add (z:=0) (e:=t) rfl (by rw[Hl.out];exact hlt) hadd
   have HP2:=hd hp2
   have Hwe:Hid (((bf (Std s.data.toList t t) 25:Nat):Int)=(tw:Int)-1):=hd (by rw[Hz0.out];omega)
   clear hadd hp2 Hadd Hon Hz0 HP Htl
   go_wp2_with fail
   go_loopg [5,6] (s.size+1) (fun k wv ev wr=>∃(e z:Nat) (num:Nat->Nat->Nat) (L:List (Nat×Nat)),ev= .int .i64 e/\wv= .int .u32 (bf (Std s.data.toList t e) 25:Nat)/\Hid (t+z=e)/\e<=s.size/\s.size<e+k/\Hid (Pth W1 wr B s.data.toList num L t (e+1)))
   case atStart=>exact⟨t,0,num2,L2,rfl,by rw[Hwe.out],hd rfl,hlt,by omega,HP2⟩
   case round=>
    obtain⟨e,z,num3,L3,rfl,rfl,Hez,he,hf3,HP3⟩:=hrel
    have he0:(0:Int)<=(e:Int):=by omega
    by_cases hel:e<s.size
    ·have hel1:(e:Int)<(s.size:Int):=by omega
     have hze:(e:Int)-(t:Int)=(z:Int):=by have:=Hez.out;omega
     have hz0:(0:Int)<=(z:Int):=by omega
     have hz24:(z:Int)<=24:=by have:=Hez.out;omega
     have Hch:=hd (ch_get s e hel)
     have Hpl:=hd (fun W:World=>placesOf_any W s (s[e]'hel).toNat hs)
     clear htw1 htw2 htw
     go_wp2_with fail
     refine(Hpl.out _).mono ?_
     rintro e4 w4 ⟨rfl,heq⟩
     have Hb1:Hid (bf (Std s.data.toList t e) 25&&&(bf (fun i=>decide (ch s.data.toList i=(s[e]'hel).toNat)) s.size>>>z)=bf (Std s.data.toList t (e+1)) 25):=hd (by
      have h1:=bf_part1 (l:=s.data.toList) (a:=t) (z:=z) (by rw[Hl.out,Hez.out];exact hel)
      rw[Hl.out,<-Nat.add_assoc,Hez.out,<-Hch.out]at h1
      exact h1)
     have Hb2:Hid (bf (fun i=>decide (ch s.data.toList i=(s[e]'hel).toNat)) s.size<2^25):=hd (Nat.lt_of_lt_of_le (bf_lt _ _) (Nat.pow_le_pow_right (by omega) (by omega)))
     generalize bf (fun i=>decide (ch s.data.toList i=(s[e]'hel).toNat)) s.size=q at*
     have HP4:=hd (HP3.out.eqw heq)
     clear heq HP3 Hpl
     go_wp2_with fail
     have Hw:Hid (bits .and .u32 ((bf (Std s.data.toList t e) 25:Nat):Int) ((q:Int)/2^z)=((bf (Std s.data.toList t (e+1)) 25:Nat):Int)):=hd (by
      have hq:=Hb2.out
      have hqz:q>>>z<4294967296:=Nat.lt_of_le_of_lt (Nat.shiftRight_le q z) (p25 hq)
      rw[shr_nat,u32_and_nat _ _ (p25 (bf_lt _ _)) hqz,Hb1.out])
     rw[Hw.out]
     have Htl:Hid (L3.length<=375):=hd (by have:=HP4.out.len;have:=tri_le t (by omega);omega)
     have Hadd:Hid (Calls Tryz.prog 107 #[.pointer (some ⟨B,0,none⟩),.int .i64 t,.int .i64 ((z:Int)+1),.int .u32 (bf (Std s.data.toList t (e+1)) 25:Nat)] w4 fun e' w'=>e'= .returned (.tuple #[])/\AddP w4 w' B num3 L3 t (z+1) (bf (Std s.data.toList t (t+(z+1))) 25)):=hd (by
      have:=padd_any HP4.out.m (a:=t) (z:=z+1) (p:=bf (Std s.data.toList t (t+(z+1))) 25) (by have:=Hez.out;omega) (bf_lt _ _) (by have:=Htl.out;omega) (fun x y hx hy=>by have:=HP4.out.nm x y hx hy;have:=Htl.out;omega)
      have e0:t+(z+1)=e+1:=by have:=Hez.out;omega
      rw[e0]at this ⊢
      rw[Int.natCast_add]at this
      exact this)
     refine Hadd.out.mono ?_
     rintro e5 w5 ⟨rfl,hadd⟩
     obtain⟨num5,L5,hp5⟩:=HP4.out.add (z:=z+1) (e:=e+1) (by have:=Hez.out;omega) (by rw[Hl.out];exact hel) hadd
     have HP5:=hd hp5
     clear hadd hp5 Hadd HP4 Htl Hw Hb1 Hb2
     go_wp2
     go_roundg (gk-1)
     case measure=>omega
     case rel=>exact⟨e+1,z+1,num5,L5,by go_num,rfl,hd (by have:=Hez.out;omega),by omega,by omega,HP5⟩
    ·obtain rfl:e=s.size:=by omega
     have HP6:Hid (Pth W1 wr B s.data.toList num3 L3 (t+1) (t+1)):=hd (by have h:=HP3.out;rw[<-Hl.out]at h;exact h.next (by rw[Hl.out];exact hs))
     clear htw1 htw2 htw HP3
     go_wp2
     go_roundg gf
     case measure=>omega
     case rel=>exact⟨t+1,num3,L3,by go_num,by omega,by omega,HP6⟩
  ·obtain rfl:t=s.size+1:=by omega
   have hgt:¬(((s.size+1:Nat)):Int)<=(s.size:Int):=by omega
   have hgd:decide (((s.size+1:Nat):Int)<=(s.size:Int))=false:=by simp;omega
   obtain⟨v,hv,ho⟩:=HP.out.m.c0
   obtain⟨va,vc,rfl⟩:=owns_shape ho
   have Hr:=hd (HP.out.m.range hv)
   obtain⟨d,hu,hdr⟩:=und_pts
   have HR2:Hid (wr.heap[R]?=some (.cells C 177 (0,0))):=hd ((HP.out.bl.block R (by rw[HBe.out];omega)).trans HR.out)
   have HF:Hid (PartsP w (wr.setRow R (ptL (.slice va L.length vc) num).toArray) s.data.toList (.returned (.agg (ptL (.slice va L.length vc) num).toArray))):=hd (by
    have h:=HP.out
    rw[<-Hl.out]at h
    exact h.done (by rw[HRe.out];exact HBe.out) HRe.out.symm (by rw[HRe.out];exact HW.out) (by rw[Hl.out];exact hs) hv)
   have Hld:Hid ((loadVar 177 ⟨R,0,none⟩).run Tryz.prog (wr.setRow R (ptL (.slice va L.length vc) num).toArray)= .ok (.agg (ptL (.slice va L.length vc) num).toArray) (wr.setRow R (ptL (.slice va L.length vc) num).toArray)):=hd (by
    refine run_loadVar_mid _ R 0 177 _ d (fun j u hu'=>?_) hu hdr (by rw[ptL_len];exact info_pts)
    rw[Nat.zero_add,cell_of_row _ _ _ _ _ _ (heap_setRow_at _ _ _ _ _ HR2.out),List.getElem?_toArray]
    exact hu')
   have Hs1:=hd (ptL_one (.slice va L.length vc) num rfl)
   have Hsz:Hid ((ptL (.slice va L.length vc) num).toArray.size=626):=hd (by rw[List.size_toArray,ptL_len])
   clear hv ho HP
   go_wp2_with (first
    |(refine wpList_load_mid rfl 177 (.tmp 3) rfl B 0 (by rfl) (ptL (.slice va L.length vc) num) d Hr.out hu hdr (by rw[ptL_len];exact info_pts) ?_)
    |(refine wpList_store_row rfl 177 (.tmp 2) (.tmp 49) rfl R (ptL (.slice va L.length vc) num).toArray (by rfl) (by rfl) 177 C HR2.out (by rw[Hsz.out];exact info_pts) (by rw[Hsz.out,HCs.out]) Hs1.out ?_))
   exact bodyPost_ret (v:= .agg (ptL (.slice va L.length vc) num).toArray) (results_cell Tryz.results104 rfl Hld.out) rfl HF.out
end Go.Proofs.YtldiemjlpnachaaGreatDoor

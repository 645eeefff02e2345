import Derived.Test.YtldiemjlpnachaaGreatDoorTwin
import Derived.Test.YtldiemjlpnachaaGreatDoorFr
import Derived.Deep.LoopGhost
set_option maxHeartbeats 800000
namespace Go.Proofs.YtldiemjlpnachaaGreatDoor
open Go.RowKit
def cellsOf(k:Int)(a:Nat->Int)(num least most:Int)(ra:Option Addr)(rn rc:Nat):List Value:=
 [.int .i64 k,.int .u32 (a 0),.int .u32 (a 1),.int .u32 (a 2),.int .u32 (a 3),.int .u32 (a 4),.int .u32 (a 5),.int .u32 (a 6),.int .u32 (a 7),.int .i64 num,.int .i64 least,.int .i64 most,.slice ra rn rc]
def cop(least most:Int):Int:=if(if most= -1 then least+1 else most)<1 then 1 else(if most= -1 then least+1 else most)
def rowGo:List Int->Int->Int
 | [],n=>n
 |x::r,n=>rowGo r (if 201<n+x then 201 else n+x)
def rowSz(l:List Int):Int:=rowGo l 1
def sumSz:List Int->Int
 | []=>0
 |x::r=>x+sumSz r
def repSz(least most x:Int):Int:=if 201<1+cop least most*x then 201 else 1+cop least most*x
inductive Tr where
 |one (f:Nat->Bool)
 |beg
 |fin
 |back (n:Nat)
 |grp (n:Nat) (r:List Tr)
 |rep (l m:Int) (x:Tr)
structure It where
 kd:Int
 sz:Int
 tr:Tr
abbrev itOne(f:Nat->Bool):It:=⟨0,1,.one f⟩
abbrev itBeg:It:=⟨1,1,.beg⟩
abbrev itFin:It:=⟨2,1,.fin⟩
abbrev itBack(n:Nat):It:=⟨3,1,.back n⟩
abbrev itGrp(n:Nat)(its:List It):It:=⟨4,1+rowSz (its.map (·.2)),.grp n (its.map (·.3))⟩
abbrev itRep(l m:Int)(x:It):It:=⟨5,repSz l m x.2,.rep l m x.3⟩
def Plain(k:Int)(a:Nat->Int)(num:Int)(t:Tr):Prop:=
 (k=0/\∃f,t= .one f/\∀i,i<8->Word (a i) f i)\/(k=1/\t= .beg)\/(k=2/\t= .fin)\/(k=3/\∃n:Nat,num=n/\t= .back n)
abbrev Fins:=Nat->Option (Array Value)
def itemAt(arr:Array Value)(i:Nat):List Value:=(arr.toList.drop (i*13)).take 13
def RowFin(P:List Value->It->Prop)(H:Fins)(ra:Option Addr)(rn:Nat)(its:List It):Prop:=
 its.length=rn/\rn<=1000/\(rn=0\/∃g arr,ra=some ⟨g,0,none⟩/\H g=some arr/\∀i (h:i<its.length),P (itemAt arr i) its[i])
def ItemOk(H:Fins):Nat->List Value->It->Prop
 |0,_,_=>False
 |d+1,cs,it=>∃a num least most ra rn rc,cs=cellsOf it.1 a num least most ra rn rc/\0<=it.1/\it.1<=5/\0<=it.2/\it.2<=202/\
   ((it.1=4/\∃its,RowFin (ItemOk H d) H ra rn its/\it.2=1+rowSz (its.map (·.2))/\∃n:Nat,num=n/\it.3= .grp n (its.map (·.3)))\/
    (it.1=5/\0<=least/\least<=20/\ -1<=most/\most<=20/\∃x,RowFin (ItemOk H d) H ra rn [x]/\it.2=repSz least most x.2/\it.3= .rep least most x.3/\(most= -1\/least<=most))\/
    (it.1≠4/\it.1≠5/\it.2=1/\Plain it.1 a num it.3))
def Fin(w:World)(H:Fins):Prop:=∀g arr,H g=some arr->w.heap[g]?=some (.cells arr 119 (0,0))
theorem itemAt_cell{w:World}{g:Nat}{arr:Array Value}(h:w.heap[g]?=some (.cells arr 119 (0,0)))(i j:Nat)(v:Value)(hv:(itemAt arr i)[j]?=some v):w.cell? ⟨g,i*13+j,none⟩=some v:=by
 rw[cell_of_row w g (i*13+j) arr _ _ h]
 unfold itemAt at hv
 rw[List.getElem?_take]at hv
 split at hv
 ·rw[List.getElem?_drop]at hv
  simpa using hv
 ·cases hv
theorem copies_any(g o:Nat)(least most:Int)(w:World)(h10:w.cell? ⟨g,o+10,none⟩=some (.int .i64 least))(h11:w.cell? ⟨g,o+11,none⟩=some (.int .i64 most))(hl:0<=least/\least<=20)(hm: -1<=most/\most<=20):
  Calls Tryz.prog 83 #[.pointer (some ⟨g,o,none⟩)] w fun e w'=>e= .returned (.int .i64 (cop least most))/\w'=w:=by
 by_cases hm1:most= -1
 ·have Hc:Hid (cop least most=least+1):=by unfold cop;rw[if_pos hm1,if_neg (by omega)];exact hd rfl
  subst hm1
  go_enter Tryz.func83,Tryz.ntmps83
  go_wp2
  go_ret
  rw[Hc.out]
  exact⟨rfl,rfl⟩
 ·have hb:((most:Int)== -1)=false:=by simpa using hm1
  by_cases h0:most<1
  ·have Hc:Hid (cop least most=1):=by unfold cop;rw[if_neg hm1,if_pos h0];exact hd rfl
   clear hm1
   go_enter Tryz.func83,Tryz.ntmps83
   go_wp2
   go_ret
   rw[Hc.out]
   exact⟨rfl,rfl⟩
  ·have Hc:Hid (cop least most=most):=by unfold cop;rw[if_neg hm1,if_neg h0];exact hd rfl
   clear hm1
   go_enter Tryz.func83,Tryz.ntmps83
   go_wp2
   go_ret
   rw[Hc.out]
   exact⟨rfl,rfl⟩
theorem cop_bd(least most:Int)(hl:0<=least/\least<=20)(hm: -1<=most/\most<=20):1<=cop least most/\cop least most<=21:=by
 unfold cop;omega
theorem rowGo_bd(l:List Int):∀n,0<=n->n<=201->(∀x∈l,0<=x/\x<=202)->0<=rowGo l n/\rowGo l n<=201:=by
 induction l with
 |nil=>intro n h0 h1 _;exact⟨h0,h1⟩
 |cons x r ih=>
  intro n h0 h1 hx
  have:=hx x (by simp)
  rw[rowGo]
  exact ih _ (by split<;>omega) (by split<;>omega) (fun y hy=>hx y (by simp[hy]))
def ItemSaid(H:Fins)(d:Nat):Prop:=∀(w:World) (g o:Nat) (cs:List Value) (it:It),Fin w H->(∀j v,cs[j]?=some v->w.cell? ⟨g,o+j,none⟩=some v)->ItemOk H d cs it->
  Calls Tryz.prog 45 #[.pointer (some ⟨g,o,none⟩)] w fun e w'=>e= .returned (.int .i64 it.2)/\w'=w
theorem ItemOk.bd{H:Fins}:∀ {d:Nat} {cs:List Value} {it:It},ItemOk H d cs it->0<=it.2/\it.2<=202
 |0,_,_,h=>h.elim
 |_+1,_,_,⟨_,_,_,_,_,_,_,_,_,_,h0,h1,_⟩=>⟨h0,h1⟩
theorem rowGo_snoc(l:List Int)(x:Int):∀n,rowGo (l++ [x]) n=if 201<rowGo l n+x then 201 else rowGo l n+x:=by
 induction l with
 |nil=>intro n;rfl
 |cons y r ih=>intro n;rw[List.cons_append,rowGo,ih,rowGo]
theorem take_snoc'{α:Type}(l:List α)(k:Nat)(h:k<l.length):l.take (k+1)=l.take k++ [l[k]]:=by
 rw[List.take_succ_eq_append_getElem h]
theorem rowSize_any(H:Fins)(d:Nat)(hI:ItemSaid H d)(w:World)(ra:Option Addr)(rn rc:Nat)(its:List It)(hF:Fin w H)(hR:RowFin (ItemOk H d) H ra rn its):
  Calls Tryz.prog 24 #[.slice ra rn rc] w fun e w'=>e= .returned (.int .i64 (rowSz (its.map (·.2))))/\w'=w:=by
 obtain⟨hlen,hrn,hrow⟩:=hR
 have HI:=hd hI
 clear hI
 have HF:=hd hF
 clear hF
 have Hrow:=hd hrow
 have Hlen:=hd hlen
 clear hrow hlen
 go_enter Tryz.func24,Tryz.ntmps24
 go_wp2
 go_loop [3,4,7] (fun z _ i=>∃(k:Nat) (n:Int),i= .int .i64 k/\z= .int .i64 n/\0<=n/\n<=201/\k<=rn/\Hid (n=rowGo ((its.take k).map (·.2)) 1)) (fun _ _ i=>rn-(intOf i).toNat)
 case atStart=>exact⟨0,1,rfl,rfl,by omega,by omega,by omega,hd rfl⟩
 case round=>
  obtain⟨k,n,rfl,rfl,hn0,hn1,hk,HN⟩:=hrel
  by_cases hlt:k<rn
  ·obtain⟨g,arr,hra,hg,hP⟩:∃g arr,ra=some ⟨g,0,none⟩/\H g=some arr/\∀i (h:i<its.length),ItemOk H d (itemAt arr i) its[i]:=by
    rcases Hrow.out with h|h
    ·omega
    ·exact h
   have hkl:k<its.length:=by rw[Hlen.out];exact hlt
   have hok:=hP k hkl
   have hbd:=hok.bd
   subst hra
   have Hsn:Hid (rowGo ((its.take (k+1)).map (·.2)) 1=if 201<rowGo ((its.take k).map (·.2)) 1+its[k].2 then 201 else rowGo ((its.take k).map (·.2)) 1+its[k].2):=by
    rw[take_snoc' its k hkl,List.map_append];exact rowGo_snoc _ _ _
   have Hc:=hd (HI.out w g (k*13) (itemAt arr k) its[k] HF.out (fun j v hv=>itemAt_cell (HF.out g arr hg) k j v hv) hok)
   have Hg:=hd hg
   have HP:=hd hP
   clear hg hP hok
   generalize hx:its[k].2=x at hbd Hsn Hc
   have Hx:=hd hx
   clear hx
   by_cases hbig:201<n+x
   ·go_wp2_with (go_at_call 45;refine Hc.out.mono ?_;rintro e w' ⟨rfl,rfl⟩)
    go_round
    case rel=>exact⟨k+1,201,by go_num,rfl,by omega,by omega,by omega,hd (by rw[Hsn.out,<-HN.out,if_pos hbig])⟩
    case measure=>simp[intOf];omega
   ·go_wp2_with (go_at_call 45;refine Hc.out.mono ?_;rintro e w' ⟨rfl,rfl⟩)
    go_round
    case rel=>exact⟨k+1,n+x,by go_num,rfl,by omega,by omega,by omega,hd (by rw[Hsn.out,<-HN.out,if_neg (by omega)])⟩
    case measure=>simp[intOf];omega
  ·go_wp2
   go_ret
   have hkr:k=its.length:=by rw[Hlen.out];omega
   have:rowSz (its.map (·.2))=n:=by rw[HN.out,hkr,List.take_length];rfl
   rw[this]
   exact⟨rfl,rfl⟩
theorem repeatSize_any(H:Fins)(d:Nat)(hI:ItemSaid H d)(w:World)(g o:Nat)(least most:Int)(ra:Option Addr)(rn rc:Nat)(x:It)(hF:Fin w H)
  (h10:w.cell? ⟨g,o+10,none⟩=some (.int .i64 least))(h11:w.cell? ⟨g,o+11,none⟩=some (.int .i64 most))(h12:w.cell? ⟨g,o+12,none⟩=some (.slice ra rn rc))
  (hl:0<=least/\least<=20)(hm: -1<=most/\most<=20)(hR:RowFin (ItemOk H d) H ra rn [x]):
  Calls Tryz.prog 66 #[.pointer (some ⟨g,o,none⟩)] w fun e w'=>e= .returned (.int .i64 (repSz least most x.2))/\w'=w:=by
 obtain⟨hlen,_,hrow⟩:=hR
 simp at hlen
 subst hlen
 obtain⟨gr,arr,hra,hg,hP⟩:∃gr arr,ra=some ⟨gr,0,none⟩/\H gr=some arr/\∀i (h:i< [x].length),ItemOk H d (itemAt arr i) [x][i]:=by
  rcases hrow with h|h
  ·omega
  ·exact h
 clear hrow
 have hok:=hP 0 (by simp)
 have hbd:=hok.bd
 subst hra
 have Hc:=hd (hI w gr 0 (itemAt arr 0) x hF (fun j v hv=>by have:=itemAt_cell (hF gr arr hg) 0 j v hv;simpa using this) hok)
 have hcb:=cop_bd least most hl hm
 have Hcop:=hd (copies_any g o least most w h10 h11 hl hm)
 clear hI hF hg hP hok
 simp at hbd
 generalize hx:x.2=y at hbd Hc ⊢
 clear hx
 generalize hc:cop least most=c at hcb Hcop
 have Hcc:=hd hc
 clear hc
 have hy:0<=c*y/\c*y<=21*202:=by
  constructor
  ·exact Int.mul_nonneg (by omega) (by omega)
  ·calc c*y<=21*y:=Int.mul_le_mul_of_nonneg_right (by omega) (by omega)
    _<=21*202:=by omega
 have Hz:Hid (repSz least most y=if 201<1+c*y then 201 else 1+c*y):=by unfold repSz;rw[Hcc.out];exact hd rfl
 go_enter Tryz.func66,Tryz.ntmps66
 go_wp2
 go_loop [3,4,10] (fun z _ i=>∃k:Nat,i= .int .i64 k/\k<=1/\((k=0/\z= .int .i64 0)\/(k=1/\z= .int .i64 y))) (fun _ _ i=>1-(intOf i).toNat)
 case atStart=>exact⟨0,rfl,by omega,.inl ⟨rfl,rfl⟩⟩
 case round=>
  obtain⟨k,rfl,hk,hz⟩:=hrel
  rcases hz with⟨rfl,rfl⟩|⟨rfl,rfl⟩
  ·go_wp2_with (go_at_call 45;refine Hc.out.mono ?_;rintro e w' ⟨rfl,rfl⟩)
   go_round
   case rel=>exact⟨1,by go_num,by omega,.inr ⟨rfl,by go_num⟩⟩
   case measure=>simp[intOf]
  ·by_cases hbig:201<1+c*y
   ·go_wp2_with (go_at_call 83;refine Hcop.out.mono ?_;rintro e w' ⟨rfl,rfl⟩)
    go_ret
    rw[Hz.out,if_pos hbig]
    exact⟨rfl,rfl⟩
   ·go_wp2_with (go_at_call 83;refine Hcop.out.mono ?_;rintro e w' ⟨rfl,rfl⟩)
    go_ret
    rw[Hz.out,if_neg (by omega)]
    exact⟨rfl,rfl⟩
theorem itemSize_any(H:Fins):∀d,ItemSaid H d
 |0=>fun _ _ _ _ _ _ _ h=>h.elim
 |d+1=>by
  have ih:=itemSize_any H d
  intro w g o cs it hF hcs hok
  obtain⟨a,num,least,most,ra,rn,rc,rfl,hk0,hk1,_,_,hcase⟩:=hok
  have h0:w.cell? ⟨g,o,none⟩=some (.int .i64 it.1):=hcs 0 _ rfl
  have h10:w.cell? ⟨g,o+10,none⟩=some (.int .i64 least):=hcs 10 _ rfl
  have h11:w.cell? ⟨g,o+11,none⟩=some (.int .i64 most):=hcs 11 _ rfl
  have h12:w.cell? ⟨g,o+12,none⟩=some (.slice ra rn rc):=hcs 12 _ rfl
  obtain⟨kd,sz,trr⟩:=it
  simp only at*
  rcases hcase with⟨rfl,its,hR,rfl,_⟩|⟨rfl,hl0,hl1,hm0,hm1,x,hR,rfl,_⟩|⟨hn4,hn5,rfl,_⟩
  ·have Hc:=hd (rowSize_any H d ih w ra rn rc its hF hR)
   have hbd:0<=rowSz (its.map (·.2))/\rowSz (its.map (·.2))<=201:=by
    refine rowGo_bd _ 1 (by omega) (by omega) (fun y hy=>?_)
    obtain⟨z,hz,rfl⟩:=List.mem_map.1 hy
    obtain⟨hlen,_,hrow⟩:=hR
    rcases hrow with h|⟨_,_,_,_,hP⟩
    ·rw[h]at hlen;simp at hlen;subst hlen;simp at hz
    ·obtain⟨i,hi,rfl⟩:=List.getElem_of_mem hz
     exact(hP i hi).bd
   clear ih hF hcs hR h10 h11
   generalize rowSz (its.map (·.2))=z at Hc hbd ⊢
   go_enter Tryz.func45,Tryz.ntmps45
   go_wp2_with (go_at_call 24;refine Hc.out.mono ?_;rintro e w' ⟨rfl,rfl⟩)
   go_ret
   exact⟨rfl,rfl⟩
  ·have Hc:=hd (repeatSize_any H d ih w g o least most ra rn rc x hF h10 h11 h12 ⟨hl0,hl1⟩ ⟨hm0,hm1⟩ hR)
   clear ih hF hcs hR h10 h11 h12
   generalize repSz least most x.2=z at Hc ⊢
   go_enter Tryz.func45,Tryz.ntmps45
   go_wp2_with (go_at_call 66;refine Hc.out.mono ?_;rintro e w' ⟨rfl,rfl⟩)
   go_ret
   exact⟨rfl,rfl⟩
  ·have e4:((kd:Int)==4)=false:=by simpa using hn4
   have e5:((kd:Int)==5)=false:=by simpa using hn5
   clear ih hF hcs hn4 hn5 h10 h11 h12
   go_enter Tryz.func45,Tryz.ntmps45
   go_wp2
   go_ret
   exact⟨rfl,rfl⟩
end Go.Proofs.YtldiemjlpnachaaGreatDoor

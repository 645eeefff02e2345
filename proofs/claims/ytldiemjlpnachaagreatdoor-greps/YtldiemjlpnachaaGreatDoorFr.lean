import Derived.WalkKit
import Derived.Test.YtldiemjlpnachaaGreatDoorTwin
import Derived.Deep.AppendLies
import Derived.Deep.Draws
import Derived.BigRegion
import Derived.Laws.DeepBits32
set_option maxHeartbeats 1600000
namespace Go.Proofs.YtldiemjlpnachaaGreatDoor
open Go.RowKit
structure Only(w w':World)(B o n:Nat):Prop where
 os:w'.os=w.os
 tape:w'.tape=w.tape
 output:w'.output=w.output
 size:w'.heap.size=w.heap.size
 block:∀k,k≠B->w'.heap[k]?=w.heap[k]?
 cell:∀i,i<o\/o+n<=i->w'.cell? ⟨B,i,none⟩=w.cell? ⟨B,i,none⟩
 frozen:∀i,w'.frozen? ⟨B,i,none⟩=w.frozen? ⟨B,i,none⟩
theorem Only.refl(w:World)(B o n:Nat):Only w w B o n:=⟨rfl,rfl,rfl,rfl,fun _ _=>rfl,fun _ _=>rfl,fun _=>rfl⟩
theorem Only.trans{a b c:World}{B o n:Nat}(h:Only a b B o n)(k:Only b c B o n):Only a c B o n:=
 ⟨k.os.trans h.os,k.tape.trans h.tape,k.output.trans h.output,k.size.trans h.size,fun i hi=>(k.block i hi).trans (h.block i hi),fun i hi=>(k.cell i hi).trans (h.cell i hi),fun i=>(k.frozen i).trans (h.frozen i)⟩
theorem Only.drew{a w:World}{B o n:Nat}(h:Only a w B o n):Only a w.drew B o n:=⟨h.os,h.tape,h.output,h.size,h.block,h.cell,h.frozen⟩
theorem Only.drewN{a w:World}{B o n m:Nat}(h:Only a w B o n):Only a (w.drewN m) B o n:=⟨h.os,h.tape,h.output,h.size,h.block,h.cell,h.frozen⟩
theorem Only.setCell{a w:World}{B o n:Nat}(h:Only a w B o n)(i:Nat)(hi:o<=i/\i<o+n)(v:Value):Only a (w.setCell ⟨B,i,none⟩ v) B o n:=
 h.trans ⟨rfl,rfl,rfl,by simp[World.setCell],fun k hk=>Below.heap_setCell _ _ _ _ hk,fun j hj=>World.cell?_setCell_other _ _ _ _ (by rintro e;cases e;omega),fun _=>World.frozen?_setCell _ _ _ _⟩
theorem Only.mono{a w:World}{B o n o' n':Nat}(h:Only a w B o n)(h1:o'<=o)(h2:o+n<=o'+n'):Only a w B o' n':=
 ⟨h.os,h.tape,h.output,h.size,h.block,fun i hi=>h.cell i (by omega),h.frozen⟩
theorem Only.far{a w:World}{B o n:Nat}(h:Only a w B o n)(p:Addr)(hp:p.block≠B):w.cell? p=a.cell? p:=World.cell?_of_block (h.block p.block hp)
theorem Only.far_frozen{a w:World}{B o n:Nat}(h:Only a w B o n)(p:Addr)(hp:p.block≠B):w.frozen? p=a.frozen? p:=World.frozen?_of_block (h.block p.block hp)
theorem Only.below{a w:World}{B o n C:Nat}(h:Only a w B o n)(hC:C<=B):Below C a w:=
 ⟨h.os,h.tape,h.output,by rw[h.size];exact Nat.le_refl _,fun k hk=>h.block k (by omega)⟩
def SetAt(w:World)(B o:Nat):Prop:=∀i,i<8->(∃z:Int,w.cell? ⟨B,o+i,none⟩=some (.int .u32 z))/\w.frozen? ⟨B,o+i,none⟩=false
theorem SetAt.setCell{w:World}{B o:Nat}(h:SetAt w B o)(p:Addr)(z:Int):SetAt (w.setCell p (.int .u32 z)) B o:=by
 intro i hi
 obtain⟨⟨u,hu⟩,hf⟩:=h i hi
 refine⟨?_,by rw[World.frozen?_setCell];exact hf⟩
 by_cases e:p=⟨B,o+i,none⟩
 ·subst e
  exact⟨z,World.cell?_setCell_same _ _ _ hu⟩
 ·exact⟨u,by rw[World.cell?_setCell_other _ _ _ _ e];exact hu⟩
theorem SetAt.drew{w:World}{B o:Nat}(h:SetAt w B o):SetAt w.drew B o:=h
theorem SetAt.drewN{w:World}{B o n:Nat}(h:SetAt w B o):SetAt (w.drewN n) B o:=h
theorem SetAt.only{w w':World}{B o B' o' n:Nat}(h:SetAt w B o)(k:Only w w' B' o' n)(hd:B≠B'\/o+8<=o'\/o'+n<=o):SetAt w' B o:=by
 intro i hi
 obtain⟨⟨u,hu⟩,hf⟩:=h i hi
 by_cases e:B=B'
 ·subst e
  exact⟨⟨u,by rw[k.cell _ (by omega)];exact hu⟩,by rw[k.frozen];exact hf⟩
 ·exact⟨⟨u,by rw[k.far _ e];exact hu⟩,by rw[k.far_frozen _ e];exact hf⟩
def SetIs(w:World)(B o:Nat)(f:Nat->Bool):Prop:=∀i,i<8->∃z:Int,w.cell? ⟨B,o+i,none⟩=some (.int .u32 z)/\Word z f i
theorem SetIs.drew{w:World}{B o:Nat}{f:Nat->Bool}(h:SetIs w B o f):SetIs w.drew B o f:=h
theorem SetIs.drewN{w:World}{B o n:Nat}{f:Nat->Bool}(h:SetIs w B o f):SetIs (w.drewN n) B o f:=h
theorem SetIs.only{w w':World}{B o B' o' n:Nat}{f:Nat->Bool}(h:SetIs w B o f)(k:Only w w' B' o' n)(hd:B≠B'\/o+8<=o'\/o'+n<=o):SetIs w' B o f:=by
 intro i hi
 obtain⟨u,hu,hw⟩:=h i hi
 by_cases e:B=B'
 ·subst e
  exact⟨u,by rw[k.cell _ (by omega)];exact hu,hw⟩
 ·exact⟨u,by rw[k.far _ e];exact hu,hw⟩
theorem SetIs.setCell{w:World}{B o k:Nat}{f g:Nat->Bool}(h:SetIs w B o f)(z:Int)(hz:Word z g k)(hk:k<8)(hg:∀i u,i<8->i≠k->Word u f i->Word u g i):SetIs (w.setCell ⟨B,o+k,none⟩ (.int .u32 z)) B o g:=by
 intro i hi
 obtain⟨u,hu,hw⟩:=h i hi
 by_cases e:i=k
 ·subst e
  exact⟨z,World.cell?_setCell_same _ _ _ hu,hz⟩
 ·exact⟨u,by rw[World.cell?_setCell_other _ _ _ _ (by intro h';injection h' with _ h'';omega)];exact hu,hg i u hi e hw⟩
end Go.Proofs.YtldiemjlpnachaaGreatDoor
namespace Go.Proofs.YtldiemjlpnachaaGreatDoor
open Go.RowKit
theorem or_word{z c:Int}{f:Nat->Bool}(hc0:0<=c)(h:Word z f (c/32).toNat):Word (bits .or .u32 z (2^(c%32).toNat%4294967296)) (addS f c.toNat) (c/32).toNat:=by
 obtain⟨n,rfl⟩:=Int.eq_ofNat_of_zero_le hc0
 rw[show((n:Int)/32).toNat=n/32 by omega]at h ⊢
 rw[show((n:Int)%32).toNat=n%32 by omega,Int.toNat_natCast]
 have hp:2^(n%32)<4294967296:=Nat.lt_of_lt_of_eq (Nat.pow_lt_pow_right (by omega) (show n%32<32 by omega)) (by decide)
 have e0:(2:Int)^(n%32)=((2^(n%32):Nat):Int):=by rw[Int.natCast_pow];rfl
 have e:(2:Int)^(n%32)%4294967296=((2^(n%32):Nat):Int):=by
  rw[e0]
  generalize 2^(n%32)=P at hp
  omega
 rw[e,u32_or _ _ h.1 h.2.1 (by omega) (by generalize 2^(n%32)=P at hp;omega),Int.toNat_natCast]
 exact h.add
def addH(F:Nat->Bool)(a b:Nat):Nat->Bool:=fun x=>F x||(decide (a<=x)&&decide (x<b))
theorem addH_empty(F:Nat->Bool){a b:Nat}(h:b<=a):addH F a b=F:=by
 funext x
 unfold addH
 by_cases h1:a<=x
 ·have:¬x<b:=by omega
  simp[this]
 ·simp[h1]
theorem addH_step(F:Nat->Bool){a b:Nat}(h:a<=b):addS (addH F a b) b=addH F a (b+1):=by
 funext x
 unfold addH addS
 by_cases h1:x=b
 ·subst h1
  simp[h]
 ·have e:decide (x<b)=decide (x<b+1):=by
   rw[decide_eq_decide]
   omega
  simp only[]
  rw[e]
  simp[h1]
theorem addH_full(F:Nat->Bool){a b k:Nat}(h:k=b+1\/(b<a/\k=a)):addH F a k=addR F a b:=by
 rcases h with rfl|⟨h,rfl⟩
 ·funext x
  unfold addH addR
  rw[show decide (x<b+1)=decide (x<=b) by rw[decide_eq_decide];omega]
 ·rw[addH_empty F (Nat.le_refl _),addR_empty F h]
theorem not_word(z:Int)(h0:0<=z)(h1:z<4294967296):bits .xor .u32 (if IntKind.u32.signed=true then-1 else IntKind.u32.max) z=4294967295-z:=by
 obtain⟨n,rfl⟩:=Int.eq_ofNat_of_zero_le h0
 show bits .xor .u32 (4294967295:Int) n=_
 rw[u32_xor _ _ (by omega) (by omega) h0 h1,Int.toNat_natCast,show(4294967295:Int).toNat=4294967295 by rfl]
 have:4294967295^^^n=2^32-(n+1):=by
  apply Nat.eq_of_testBit_eq
  intro j
  rw[Nat.testBit_xor,show(4294967295:Nat)=2^32-1 by decide,Nat.testBit_two_pow_sub_one,Nat.testBit_two_pow_sub_succ (by omega)]
  by_cases hj:j<32
  ·simp[hj]
  ·have:n.testBit j=false:=Nat.testBit_lt_two_pow (Nat.lt_of_lt_of_le (show n<2^32 by omega) (Nat.pow_le_pow_right (by omega) (by omega)))
   simp[hj,this]
 rw[this]
 omega
def SetIv(w:World)(B o:Nat)(F:Nat->Bool)(k:Nat):Prop:=∀i,i<8->∃z:Int,w.cell? ⟨B,o+i,none⟩=some (.int .u32 z)/\Word z (if i<k then invS F else F) i
theorem SetIv.step{w:World}{B o k:Nat}{F:Nat->Bool}{z:Int}(h:SetIv w B o F k)(hk:k<8)(hz:w.cell? ⟨B,o+k,none⟩=some (.int .u32 z))(y:Int)(hy:y=4294967295-z):SetIv (w.setCell ⟨B,o+k,none⟩ (.int .u32 y)) B o F (k+1):=by
 intro i hi
 obtain⟨u,hu,hw⟩:=h i hi
 by_cases e:i=k
 ·subst e
  rw[hz]at hu
  cases hu
  rw[if_neg (by omega)]at hw
  refine⟨y,World.cell?_setCell_same _ _ _ hz,?_⟩
  rw[if_pos (by omega),hy]
  exact hw.inv
 ·refine⟨u,by rw[World.cell?_setCell_other _ _ _ _ (by intro h';injection h' with _ h'';omega)];exact hu,?_⟩
  have:(if i<k+1 then invS F else F)=if i<k then invS F else F:=by
   by_cases h1:i<k
   ·rw[if_pos h1,if_pos (by omega)]
   ·rw[if_neg h1,if_neg (by omega)]
  rw[this]
  exact hw
theorem add_any(B o:Nat)(c:Int)(w:World)(hc0:0<=c)(hc1:c<=255)(hs:SetAt w B o):
  Calls Tryz.prog 65 #[.pointer (some ⟨B,o,none⟩),.int .u8 c] w fun e w'=>e= .returned (.tuple #[])/\(SetAt w' B o/\∀f,SetIs w B o f->SetIs w' B o (addS f c.toNat))/\Only w w' B o 8:=by
 obtain⟨⟨z,hz⟩,hf⟩:=hs (c/32).toNat (by omega)
 have hq0:0<=c/32:=by omega
 have hq1:c/32<8:=by omega
 have hr0:0<=c%32:=by omega
 have hr1:c%32<32:=by omega
 go_enter Tryz.func65,Tryz.ntmps65
 go_wp2
 go_region
 go_end0
 refine⟨rfl,⟨(hs.setCell _ _).drew,fun f hf'=>?_⟩,((Only.refl _ _ _ _).setCell _ (by omega) _).drew⟩
 obtain⟨u,hu,hw⟩:=hf' (c/32).toNat (by omega)
 rw[hz]at hu
 cases hu
 exact hf'.setCell _ (or_word hc0 hw) (by omega) (fun i u _ hne hw'=>hw'.far (by omega))
theorem addRange_any(B o:Nat)(f l:Int)(w:World)(hf0:0<=f)(hf1:f<=255)(hl0:0<=l)(hl1:l<=255)(hs:SetAt w B o):
  Calls Tryz.prog 63 #[.pointer (some ⟨B,o,none⟩),.int .u8 f,.int .u8 l] w fun e w'=>e= .returned (.tuple #[])/\(SetAt w' B o/\∀F,SetIs w B o F->SetIs w' B o (addR F f.toNat l.toNat))/\Only w w' B o 8:=by
 go_enter Tryz.func63,Tryz.ntmps63
 go_wp2
 go_loopw [6] (fun i wr=>∃k:Int,i= .int .i64 k/\f<=k/\k<=256/\(k=f\/k<=l+1)/\SetAt wr B o/\Only w wr B o 8/\Hid (∀F,SetIs w B o F->SetIs wr B o (addH F f.toNat k.toNat))) (fun i _=>(256-intOf i).toNat)
 case atStart=>exact⟨f,rfl,by omega,by omega,.inl rfl,hs,Only.refl _ _ _ _,hd (fun F hF=>by rw[addH_empty F (Nat.le_refl _)];exact hF)⟩
 case round=>
  obtain⟨k,rfl,hk0,hk1,hk2,hsr,hor,HF⟩:=hrel
  by_cases hlt:k<=l
  ·go_wp2_with (go_at_call 65;refine(add_any B o _ _ (by omega) (by omega) hsr).mono ?_;rintro e w' ⟨rfl,hs',ho'⟩)
   go_roundw
   case rel=>exact⟨k+1,rfl,by omega,by omega,by omega,hs'.1,hor.trans ho',hd (fun F hF=>by
    have:=hs'.2 _ (HF.out F hF)
    rw[addH_step F (by omega)]at this
    rw[show(k+1).toNat=k.toNat+1 by omega]
    exact this)⟩
   case measure=>simp[intOf];omega
  ·go_wp2
   go_end0
   refine⟨rfl,⟨hsr,fun F hF=>?_⟩,hor⟩
   rw[<-addH_full F (k:=k.toNat) (by omega)]
   exact HF.out F hF
theorem invert_any(B o:Nat)(w:World)(hs:SetAt w B o):
  Calls Tryz.prog 81 #[.pointer (some ⟨B,o,none⟩)] w fun e w'=>e= .returned (.tuple #[])/\(SetAt w' B o/\∀F,SetIs w B o F->SetIs w' B o (invS F))/\Only w w' B o 8:=by
 go_enter Tryz.func81,Tryz.ntmps81
 go_wp2
 go_loopw [2,3] (fun _ i wr=>∃k:Nat,i= .int .i64 k/\k<=8/\SetAt wr B o/\Only w wr B o 8/\Hid (∀F,SetIs w B o F->SetIv wr B o F k)) (fun _ i _=>(8-intOf i).toNat)
 case atStart=>exact⟨0,rfl,by omega,hs,Only.refl _ _ _ _,hd (fun F hF i hi=>by rw[if_neg (by omega)];exact hF i hi)⟩
 case round=>
  obtain⟨k,rfl,hk1,hsr,hor,HF⟩:=hrel
  by_cases hlt:k<8
  ·obtain⟨⟨z,hz⟩,hf⟩:=hsr k hlt
   have hk8:(k:Int)<8:=by omega
   have hk0:(0:Int)<=(k:Int):=by omega
   go_wp2
   go_region
   go_wp2
   go_roundw
   case rel=>exact⟨k+1,by go_num,by omega,(hsr.setCell _ _).drew,(hor.setCell _ (by omega) _).drew,hd (fun F hF=>(HF.out F hF).step hlt hz _ (by obtain⟨u,hu,hw⟩:=HF.out F hF k hlt;rw[hz]at hu;cases hu;exact not_word _ hw.1 hw.2.1))⟩
   case measure=>simp[intOf];omega
  ·go_wp2
   go_end0
   refine⟨rfl,⟨hsr,fun F hF i hi=>?_⟩,hor⟩
   have hv:=HF.out F hF i hi
   rw[if_pos (by omega)]at hv
   exact hv
end Go.Proofs.YtldiemjlpnachaaGreatDoor

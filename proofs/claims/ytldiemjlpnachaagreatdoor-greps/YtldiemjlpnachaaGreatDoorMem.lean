import Derived.Test.YtldiemjlpnachaaGreatDoorFr
import Derived.Deep.QuietTactic
import Derived.BigQuiet
set_option maxHeartbeats 3200000
set_option maxRecDepth 100000
namespace Go.Proofs.YtldiemjlpnachaaGreatDoor
open Go.RowKit
variable {f : Nat → Bool}
theorem addClass_0(B o:Nat)(w:World)(hs:SetAt w B o):
  Calls Tryz.prog 106 #[.pointer (some ⟨B,o,none⟩),.string ⟨#[91,58,97,108,112,104,97,58,93]⟩] w fun e w'=>e= .returned (.tuple #[])/\(SetAt w' B o/\∀f,SetIs w B o f->SetIs w' B o (clsAdd [91,58,97,108,112,104,97,58,93] f))/\Only w w' B o 8:=by
 go_enter Tryz.func106,Tryz.ntmps106
 have ho0:Only w w B o 8:=Only.refl _ _ _ _
 have HI:Hid (∀F,SetIs w B o F->SetIs w B o F):=hd (fun _ h=>h)
 go_wp2_with (first
  |(go_at_call 63;refine(addRange_any B o _ _ _ (by decide) (by decide) (by decide) (by decide) (by assumption)).mono ?_;rintro e w' ⟨rfl,⟨hs',hi'⟩,ho'⟩;have ho2:=Only.trans (by assumption) ho';replace HI:=hd (fun F hF=>hi' _ (HI.out F hF));clear hi')
  |(go_at_call 65;refine(add_any B o _ _ (by decide) (by decide) (by assumption)).mono ?_;rintro e w' ⟨rfl,⟨hs',hi'⟩,ho'⟩;have ho2:=Only.trans (by assumption) ho';replace HI:=hd (fun F hF=>hi' _ (HI.out F hF));clear hi'))
 all_goals go_end0
 all_goals exact⟨rfl,⟨by assumption,fun F hF=>HI.out F hF⟩,by assumption⟩
theorem addClass_1(B o:Nat)(w:World)(hs:SetAt w B o):
  Calls Tryz.prog 106 #[.pointer (some ⟨B,o,none⟩),.string ⟨#[91,58,100,105,103,105,116,58,93]⟩] w fun e w'=>e= .returned (.tuple #[])/\(SetAt w' B o/\∀f,SetIs w B o f->SetIs w' B o (clsAdd [91,58,100,105,103,105,116,58,93] f))/\Only w w' B o 8:=by
 go_enter Tryz.func106,Tryz.ntmps106
 have ho0:Only w w B o 8:=Only.refl _ _ _ _
 have HI:Hid (∀F,SetIs w B o F->SetIs w B o F):=hd (fun _ h=>h)
 go_wp2_with (first
  |(go_at_call 63;refine(addRange_any B o _ _ _ (by decide) (by decide) (by decide) (by decide) (by assumption)).mono ?_;rintro e w' ⟨rfl,⟨hs',hi'⟩,ho'⟩;have ho2:=Only.trans (by assumption) ho';replace HI:=hd (fun F hF=>hi' _ (HI.out F hF));clear hi')
  |(go_at_call 65;refine(add_any B o _ _ (by decide) (by decide) (by assumption)).mono ?_;rintro e w' ⟨rfl,⟨hs',hi'⟩,ho'⟩;have ho2:=Only.trans (by assumption) ho';replace HI:=hd (fun F hF=>hi' _ (HI.out F hF));clear hi'))
 all_goals go_end0
 all_goals exact⟨rfl,⟨by assumption,fun F hF=>HI.out F hF⟩,by assumption⟩
theorem addClass_2(B o:Nat)(w:World)(hs:SetAt w B o):
  Calls Tryz.prog 106 #[.pointer (some ⟨B,o,none⟩),.string ⟨#[91,58,97,108,110,117,109,58,93]⟩] w fun e w'=>e= .returned (.tuple #[])/\(SetAt w' B o/\∀f,SetIs w B o f->SetIs w' B o (clsAdd [91,58,97,108,110,117,109,58,93] f))/\Only w w' B o 8:=by
 go_enter Tryz.func106,Tryz.ntmps106
 have ho0:Only w w B o 8:=Only.refl _ _ _ _
 have HI:Hid (∀F,SetIs w B o F->SetIs w B o F):=hd (fun _ h=>h)
 go_wp2_with (first
  |(go_at_call 63;refine(addRange_any B o _ _ _ (by decide) (by decide) (by decide) (by decide) (by assumption)).mono ?_;rintro e w' ⟨rfl,⟨hs',hi'⟩,ho'⟩;have ho2:=Only.trans (by assumption) ho';replace HI:=hd (fun F hF=>hi' _ (HI.out F hF));clear hi')
  |(go_at_call 65;refine(add_any B o _ _ (by decide) (by decide) (by assumption)).mono ?_;rintro e w' ⟨rfl,⟨hs',hi'⟩,ho'⟩;have ho2:=Only.trans (by assumption) ho';replace HI:=hd (fun F hF=>hi' _ (HI.out F hF));clear hi'))
 all_goals go_end0
 all_goals exact⟨rfl,⟨by assumption,fun F hF=>HI.out F hF⟩,by assumption⟩
theorem addClass_3(B o:Nat)(w:World)(hs:SetAt w B o):
  Calls Tryz.prog 106 #[.pointer (some ⟨B,o,none⟩),.string ⟨#[91,58,117,112,112,101,114,58,93]⟩] w fun e w'=>e= .returned (.tuple #[])/\(SetAt w' B o/\∀f,SetIs w B o f->SetIs w' B o (clsAdd [91,58,117,112,112,101,114,58,93] f))/\Only w w' B o 8:=by
 go_enter Tryz.func106,Tryz.ntmps106
 have ho0:Only w w B o 8:=Only.refl _ _ _ _
 have HI:Hid (∀F,SetIs w B o F->SetIs w B o F):=hd (fun _ h=>h)
 go_wp2_with (first
  |(go_at_call 63;refine(addRange_any B o _ _ _ (by decide) (by decide) (by decide) (by decide) (by assumption)).mono ?_;rintro e w' ⟨rfl,⟨hs',hi'⟩,ho'⟩;have ho2:=Only.trans (by assumption) ho';replace HI:=hd (fun F hF=>hi' _ (HI.out F hF));clear hi')
  |(go_at_call 65;refine(add_any B o _ _ (by decide) (by decide) (by assumption)).mono ?_;rintro e w' ⟨rfl,⟨hs',hi'⟩,ho'⟩;have ho2:=Only.trans (by assumption) ho';replace HI:=hd (fun F hF=>hi' _ (HI.out F hF));clear hi'))
 all_goals go_end0
 all_goals exact⟨rfl,⟨by assumption,fun F hF=>HI.out F hF⟩,by assumption⟩
theorem addClass_4(B o:Nat)(w:World)(hs:SetAt w B o):
  Calls Tryz.prog 106 #[.pointer (some ⟨B,o,none⟩),.string ⟨#[91,58,108,111,119,101,114,58,93]⟩] w fun e w'=>e= .returned (.tuple #[])/\(SetAt w' B o/\∀f,SetIs w B o f->SetIs w' B o (clsAdd [91,58,108,111,119,101,114,58,93] f))/\Only w w' B o 8:=by
 go_enter Tryz.func106,Tryz.ntmps106
 have ho0:Only w w B o 8:=Only.refl _ _ _ _
 have HI:Hid (∀F,SetIs w B o F->SetIs w B o F):=hd (fun _ h=>h)
 go_wp2_with (first
  |(go_at_call 63;refine(addRange_any B o _ _ _ (by decide) (by decide) (by decide) (by decide) (by assumption)).mono ?_;rintro e w' ⟨rfl,⟨hs',hi'⟩,ho'⟩;have ho2:=Only.trans (by assumption) ho';replace HI:=hd (fun F hF=>hi' _ (HI.out F hF));clear hi')
  |(go_at_call 65;refine(add_any B o _ _ (by decide) (by decide) (by assumption)).mono ?_;rintro e w' ⟨rfl,⟨hs',hi'⟩,ho'⟩;have ho2:=Only.trans (by assumption) ho';replace HI:=hd (fun F hF=>hi' _ (HI.out F hF));clear hi'))
 all_goals go_end0
 all_goals exact⟨rfl,⟨by assumption,fun F hF=>HI.out F hF⟩,by assumption⟩
theorem addClass_5(B o:Nat)(w:World)(hs:SetAt w B o):
  Calls Tryz.prog 106 #[.pointer (some ⟨B,o,none⟩),.string ⟨#[91,58,115,112,97,99,101,58,93]⟩] w fun e w'=>e= .returned (.tuple #[])/\(SetAt w' B o/\∀f,SetIs w B o f->SetIs w' B o (clsAdd [91,58,115,112,97,99,101,58,93] f))/\Only w w' B o 8:=by
 go_enter Tryz.func106,Tryz.ntmps106
 have ho0:Only w w B o 8:=Only.refl _ _ _ _
 have HI:Hid (∀F,SetIs w B o F->SetIs w B o F):=hd (fun _ h=>h)
 go_wp2_with (first
  |(go_at_call 63;refine(addRange_any B o _ _ _ (by decide) (by decide) (by decide) (by decide) (by assumption)).mono ?_;rintro e w' ⟨rfl,⟨hs',hi'⟩,ho'⟩;have ho2:=Only.trans (by assumption) ho';replace HI:=hd (fun F hF=>hi' _ (HI.out F hF));clear hi')
  |(go_at_call 65;refine(add_any B o _ _ (by decide) (by decide) (by assumption)).mono ?_;rintro e w' ⟨rfl,⟨hs',hi'⟩,ho'⟩;have ho2:=Only.trans (by assumption) ho';replace HI:=hd (fun F hF=>hi' _ (HI.out F hF));clear hi'))
 all_goals go_end0
 all_goals exact⟨rfl,⟨by assumption,fun F hF=>HI.out F hF⟩,by assumption⟩
def NamesIn(w:World):Prop:=w.cell? ⟨4,0,none⟩=some (.string ⟨#[91,58,97,108,112,104,97,58,93]⟩)/\w.cell? ⟨4,1,none⟩=some (.string ⟨#[91,58,100,105,103,105,116,58,93]⟩)/\w.cell? ⟨4,2,none⟩=some (.string ⟨#[91,58,97,108,110,117,109,58,93]⟩)/\w.cell? ⟨4,3,none⟩=some (.string ⟨#[91,58,117,112,112,101,114,58,93]⟩)/\w.cell? ⟨4,4,none⟩=some (.string ⟨#[91,58,108,111,119,101,114,58,93]⟩)/\w.cell? ⟨4,5,none⟩=some (.string ⟨#[91,58,115,112,97,99,101,58,93]⟩)
structure Mem(w:World)(M:Nat)(s:ByteArray)(p:Nat)(bc:Bool)(f:Nat->Bool):Prop where
 c0:w.cell? ⟨M,0,none⟩=some (.string s)
 c1:w.cell? ⟨M,1,none⟩=some (.int .i64 p)
 c10:w.cell? ⟨M,10,none⟩=some (.bool bc)
 f1:w.frozen? ⟨M,1,none⟩=false
 f10:w.frozen? ⟨M,10,none⟩=false
 set:SetAt w M 2
 is:SetIs w M 2 f
theorem endsAt_any(M:Nat)(s:ByteArray)(p:Nat)(bc:Bool)(i:Int)(w:World)(hm:Mem w M s p bc f)(h0:0<=i):
  Calls Tryz.prog 101 #[.pointer (some ⟨M,0,none⟩),.int .i64 i] w fun e w'=>e= .returned (.bool (endB s.data.toList i.toNat))/\w'=w:=by
 obtain⟨n,rfl⟩:=Int.eq_ofNat_of_zero_le h0
 rw[Int.toNat_natCast]
 have c0:=hm.c0
 by_cases hlt:n<s.size
 ·have Hv:=hd (endB_in hlt)
  go_enter Tryz.func101,Tryz.ntmps101
  go_wp2
  go_ret
  exact⟨ret_bool (by rw[Hv.out];simp[Nat.not_le.2 hlt]),rfl⟩
 ·have Hv:=hd (endB_out hlt)
  go_enter Tryz.func101,Tryz.ntmps101
  go_wp2
  go_ret
  exact⟨ret_bool (by rw[Hv.out]),rfl⟩
theorem Mem.drewN{w:World}{M:Nat}{s:ByteArray}{p:Nat}{bc:Bool}{n:Nat}(h:Mem w M s p bc f):Mem (w.drewN n) M s p bc f:=⟨h.c0,h.c1,h.c10,h.f1,h.f10,h.set.drewN,h.is.drewN⟩
theorem Mem.only{w w':World}{M:Nat}{s:ByteArray}{p:Nat}{bc:Bool}{f':Nat->Bool}(h:Mem w M s p bc f)(k:Only w w' M 2 8)(hs:SetAt w' M 2)(hi:SetIs w' M 2 f'):Mem w' M s p bc f':=
 ⟨(k.cell 0 (by omega)).trans h.c0,(k.cell 1 (by omega)).trans h.c1,(k.cell 10 (by omega)).trans h.c10,(k.frozen 1).trans h.f1,(k.frozen 10).trans h.f10,hs,hi⟩
theorem SetAt.away{w:World}{B o i:Nat}{v:Value}(h:SetAt w B o)(hi:i<o\/o+8<=i):SetAt (w.setCell ⟨B,i,none⟩ v) B o:=by
 intro j hj
 obtain⟨⟨u,hu⟩,hf⟩:=h j hj
 refine⟨⟨u,?_⟩,by simpa using hf⟩
 rw[World.cell?_setCell_other _ _ _ _ (by rintro e;injection e;omega)];exact hu
theorem SetIs.away{w:World}{B o i:Nat}{v:Value}(h:SetIs w B o f)(hi:i<o\/o+8<=i):SetIs (w.setCell ⟨B,i,none⟩ v) B o f:=by
 intro j hj
 obtain⟨u,hu,hw⟩:=h j hj
 refine⟨u,?_,hw⟩
 rw[World.cell?_setCell_other _ _ _ _ (by rintro e;injection e;omega)];exact hu
theorem Mem.moved1{w:World}{M:Nat}{s:ByteArray}{p q:Nat}{bc:Bool}(h:Mem w M s p bc f):Mem (w.setCell ⟨M,1,none⟩ (.int .i64 q)) M s q bc f:=by
 refine⟨?_,World.cell?_setCell_same _ _ _ h.c1,?_,by simpa using h.f1,by simpa using h.f10,h.set.away (by omega),h.is.away (by omega)⟩
 ·rw[World.cell?_setCell_other _ _ _ _ (by simp)];exact h.c0
 ·rw[World.cell?_setCell_other _ _ _ _ (by simp)];exact h.c10
theorem Mem.marked{w:World}{M:Nat}{s:ByteArray}{p:Nat}{bc bd:Bool}(h:Mem w M s p bc f):Mem (w.setCell ⟨M,10,none⟩ (.bool bd)) M s p bd f:=by
 refine⟨?_,?_,World.cell?_setCell_same _ _ _ h.c10,by simpa using h.f1,by simpa using h.f10,h.set.away (by omega),h.is.away (by omega)⟩
 ·rw[World.cell?_setCell_other _ _ _ _ (by simp)];exact h.c0
 ·rw[World.cell?_setCell_other _ _ _ _ (by simp)];exact h.c1
theorem Mem.moved{w:World}{M:Nat}{s:ByteArray}{p q:Nat}{bc bd:Bool}(h:Mem w M s p bc f):Mem ((w.setCell ⟨M,1,none⟩ (.int .i64 q)).setCell ⟨M,10,none⟩ (.bool bd)) M s q bd f:=h.moved1.marked
def clsE:Option (List UInt8)->Int
 |some _=>0
 |none=>5
def clsP(p:Nat):Option (List UInt8)->Nat
 |some t=>p+t.length
 |none=>p
def clsB(bc:Bool):Option (List UInt8)->Bool
 |some _=>true
 |none=>bc
theorem ix0(w:World):(Instr.index 200 (.agg #[.string ⟨#[91,58,97,108,112,104,97,58,93]⟩,.string ⟨#[91,58,100,105,103,105,116,58,93]⟩,.string ⟨#[91,58,97,108,110,117,109,58,93]⟩,.string ⟨#[91,58,117,112,112,101,114,58,93]⟩,.string ⟨#[91,58,108,111,119,101,114,58,93]⟩,.string ⟨#[91,58,115,112,97,99,101,58,93]⟩]) (.int .i64 0)).run Tryz.prog w= .ok (.string ⟨#[91,58,97,108,112,104,97,58,93]⟩) w:=by kernel_rfl
theorem ix1(w:World):(Instr.index 200 (.agg #[.string ⟨#[91,58,97,108,112,104,97,58,93]⟩,.string ⟨#[91,58,100,105,103,105,116,58,93]⟩,.string ⟨#[91,58,97,108,110,117,109,58,93]⟩,.string ⟨#[91,58,117,112,112,101,114,58,93]⟩,.string ⟨#[91,58,108,111,119,101,114,58,93]⟩,.string ⟨#[91,58,115,112,97,99,101,58,93]⟩]) (.int .i64 1)).run Tryz.prog w= .ok (.string ⟨#[91,58,100,105,103,105,116,58,93]⟩) w:=by kernel_rfl
theorem ix2(w:World):(Instr.index 200 (.agg #[.string ⟨#[91,58,97,108,112,104,97,58,93]⟩,.string ⟨#[91,58,100,105,103,105,116,58,93]⟩,.string ⟨#[91,58,97,108,110,117,109,58,93]⟩,.string ⟨#[91,58,117,112,112,101,114,58,93]⟩,.string ⟨#[91,58,108,111,119,101,114,58,93]⟩,.string ⟨#[91,58,115,112,97,99,101,58,93]⟩]) (.int .i64 2)).run Tryz.prog w= .ok (.string ⟨#[91,58,97,108,110,117,109,58,93]⟩) w:=by kernel_rfl
theorem ix3(w:World):(Instr.index 200 (.agg #[.string ⟨#[91,58,97,108,112,104,97,58,93]⟩,.string ⟨#[91,58,100,105,103,105,116,58,93]⟩,.string ⟨#[91,58,97,108,110,117,109,58,93]⟩,.string ⟨#[91,58,117,112,112,101,114,58,93]⟩,.string ⟨#[91,58,108,111,119,101,114,58,93]⟩,.string ⟨#[91,58,115,112,97,99,101,58,93]⟩]) (.int .i64 3)).run Tryz.prog w= .ok (.string ⟨#[91,58,117,112,112,101,114,58,93]⟩) w:=by kernel_rfl
theorem ix4(w:World):(Instr.index 200 (.agg #[.string ⟨#[91,58,97,108,112,104,97,58,93]⟩,.string ⟨#[91,58,100,105,103,105,116,58,93]⟩,.string ⟨#[91,58,97,108,110,117,109,58,93]⟩,.string ⟨#[91,58,117,112,112,101,114,58,93]⟩,.string ⟨#[91,58,108,111,119,101,114,58,93]⟩,.string ⟨#[91,58,115,112,97,99,101,58,93]⟩]) (.int .i64 4)).run Tryz.prog w= .ok (.string ⟨#[91,58,108,111,119,101,114,58,93]⟩) w:=by kernel_rfl
theorem ix5(w:World):(Instr.index 200 (.agg #[.string ⟨#[91,58,97,108,112,104,97,58,93]⟩,.string ⟨#[91,58,100,105,103,105,116,58,93]⟩,.string ⟨#[91,58,97,108,110,117,109,58,93]⟩,.string ⟨#[91,58,117,112,112,101,114,58,93]⟩,.string ⟨#[91,58,108,111,119,101,114,58,93]⟩,.string ⟨#[91,58,115,112,97,99,101,58,93]⟩]) (.int .i64 5)).run Tryz.prog w= .ok (.string ⟨#[91,58,115,112,97,99,101,58,93]⟩) w:=by kernel_rfl
theorem class_any(M:Nat)(s:ByteArray)(p:Nat)(bc:Bool)(w:World)(hm:Mem w M s p bc f)(hn:NamesIn w)(hs:s.size<=60)(hp:p<=60):
  Calls Tryz.prog 100 #[.pointer (some ⟨M,0,none⟩)] w fun e w'=>e= .returned (.int .i64 (clsE (clsN s.data.toList p clsNames)))/\Mem w' M s (clsP p (clsN s.data.toList p clsNames)) (clsB bc (clsN s.data.toList p clsNames)) (clsF f (clsN s.data.toList p clsNames))/\Only w w' M 0 11:=by
 obtain⟨g0,g1,g2,g3,g4,g5⟩:=hn
 have i0:=ix0
 have i1:=ix1
 have i2:=ix2
 have i3:=ix3
 have i4:=ix4
 have i5:=ix5
 go_enter Tryz.func100,Tryz.ntmps100
 go_wp2
 go_loopw [4,6] (fun _ i wr=>∃(k n:Nat),i= .int .i64 k/\k<=6/\wr=w.drewN n/\Hid (clsN s.data.toList p clsNames=clsN s.data.toList p (clsNames.drop k))) (fun _ i _=>(6-intOf i).toNat)
 case atStart=>exact⟨0,0,rfl,by omega,rfl,hd rfl⟩
 case round=>
  obtain⟨k,n,rfl,hk,hwr,HG⟩:=hrel
  have hmr:Mem wr M s p bc f:=by rw[hwr];exact hm.drewN
  have Hor:Hid (Only w wr M 0 11):=by rw[hwr];exact(Only.refl _ _ _ _).drewN
  have Hw:=hd hwr
  clear hwr
  have c0:=hmr.c0
  have c1:=hmr.c1
  have p0:(0:Int)<=(p:Int):=by omega
  have p1:(p:Int)<=60:=by omega
  rcases(show k=6\/k=0\/k=1\/k=2\/k=3\/k=4\/k=5 by omega)with rfl|rfl|rfl|rfl|rfl|rfl|rfl
  ·go_wp2
   go_ret
   have hz:clsN s.data.toList p clsNames=none:=HG.out
   rw[hz]
   exact⟨rfl,hmr,Hor.out⟩
  ·by_cases hsw:sw s.data.toList p [91,58,97,108,112,104,97,58,93]=true
   ·have Hz:Hid (clsN s.data.toList p clsNames=some [91,58,97,108,112,104,97,58,93]):=HG.out.trans (by show(if sw s.data.toList p [91,58,97,108,112,104,97,58,93]=true then _ else _)=_;rw[if_pos hsw])
    go_wp2
    go_quiet ((go_at_call 64;exact Calls.quiet_of_same (hasAt_at s _ _ p [91,58,97,108,112,104,97,58,93] _ rfl rfl (by omega) (by decide) (by decide) (by omega))))
    simp only[hsw]
    go_wp2_with fail
    refine(addClass_0 M 2 _ hmr.set.drewN).mono ?_
    rintro e w2 ⟨rfl,hs2,ho2⟩
    have hm2:Mem w2 M s p bc (clsAdd [91,58,97,108,112,104,97,58,93] f):=hmr.drewN.only ho2 hs2.1 (hs2.2 _ hmr.is.drewN)
    have Ho2:Hid (Only w w2 M 0 11):=hd (Hor.out.drewN.trans (ho2.mono (by omega) (by omega)))
    have d1:=hm2.c1
    have d10:=hm2.c10
    have e1:=hm2.f1
    have e10:=hm2.f10
    clear ho2
    go_wp2
    go_ret
    rw[Hz.out]
    exact⟨rfl,hm2.moved,(Ho2.out.setCell _ (by omega) _).setCell _ (by omega) _⟩
   ·have hswf:sw s.data.toList p [91,58,97,108,112,104,97,58,93]=false:=by simpa using hsw
    clear hsw
    have Hz:Hid (clsN s.data.toList p clsNames=clsN s.data.toList p (clsNames.drop 1)):=HG.out.trans (by show(if sw s.data.toList p [91,58,97,108,112,104,97,58,93]=true then _ else _)=_;rw[hswf];rfl)
    go_wp2
    go_quiet ((go_at_call 64;exact Calls.quiet_of_same (hasAt_at s _ _ p [91,58,97,108,112,104,97,58,93] _ rfl rfl (by omega) (by decide) (by decide) (by omega))))
    simp only[hswf]
    go_wp2
    go_roundw
    case rel=>exact⟨1,n+nq,by go_num,by omega,by rw[Hw.out,World.drewN_drewN],Hz⟩
    case measure=>simp[intOf]
  ·by_cases hsw:sw s.data.toList p [91,58,100,105,103,105,116,58,93]=true
   ·have Hz:Hid (clsN s.data.toList p clsNames=some [91,58,100,105,103,105,116,58,93]):=HG.out.trans (by show(if sw s.data.toList p [91,58,100,105,103,105,116,58,93]=true then _ else _)=_;rw[if_pos hsw])
    go_wp2
    go_quiet ((go_at_call 64;exact Calls.quiet_of_same (hasAt_at s _ _ p [91,58,100,105,103,105,116,58,93] _ rfl rfl (by omega) (by decide) (by decide) (by omega))))
    simp only[hsw]
    go_wp2_with fail
    refine(addClass_1 M 2 _ hmr.set.drewN).mono ?_
    rintro e w2 ⟨rfl,hs2,ho2⟩
    have hm2:Mem w2 M s p bc (clsAdd [91,58,100,105,103,105,116,58,93] f):=hmr.drewN.only ho2 hs2.1 (hs2.2 _ hmr.is.drewN)
    have Ho2:Hid (Only w w2 M 0 11):=hd (Hor.out.drewN.trans (ho2.mono (by omega) (by omega)))
    have d1:=hm2.c1
    have d10:=hm2.c10
    have e1:=hm2.f1
    have e10:=hm2.f10
    clear ho2
    go_wp2
    go_ret
    rw[Hz.out]
    exact⟨rfl,hm2.moved,(Ho2.out.setCell _ (by omega) _).setCell _ (by omega) _⟩
   ·have hswf:sw s.data.toList p [91,58,100,105,103,105,116,58,93]=false:=by simpa using hsw
    clear hsw
    have Hz:Hid (clsN s.data.toList p clsNames=clsN s.data.toList p (clsNames.drop 2)):=HG.out.trans (by show(if sw s.data.toList p [91,58,100,105,103,105,116,58,93]=true then _ else _)=_;rw[hswf];rfl)
    go_wp2
    go_quiet ((go_at_call 64;exact Calls.quiet_of_same (hasAt_at s _ _ p [91,58,100,105,103,105,116,58,93] _ rfl rfl (by omega) (by decide) (by decide) (by omega))))
    simp only[hswf]
    go_wp2
    go_roundw
    case rel=>exact⟨2,n+nq,by go_num,by omega,by rw[Hw.out,World.drewN_drewN],Hz⟩
    case measure=>simp[intOf]
  ·by_cases hsw:sw s.data.toList p [91,58,97,108,110,117,109,58,93]=true
   ·have Hz:Hid (clsN s.data.toList p clsNames=some [91,58,97,108,110,117,109,58,93]):=HG.out.trans (by show(if sw s.data.toList p [91,58,97,108,110,117,109,58,93]=true then _ else _)=_;rw[if_pos hsw])
    go_wp2
    go_quiet ((go_at_call 64;exact Calls.quiet_of_same (hasAt_at s _ _ p [91,58,97,108,110,117,109,58,93] _ rfl rfl (by omega) (by decide) (by decide) (by omega))))
    simp only[hsw]
    go_wp2_with fail
    refine(addClass_2 M 2 _ hmr.set.drewN).mono ?_
    rintro e w2 ⟨rfl,hs2,ho2⟩
    have hm2:Mem w2 M s p bc (clsAdd [91,58,97,108,110,117,109,58,93] f):=hmr.drewN.only ho2 hs2.1 (hs2.2 _ hmr.is.drewN)
    have Ho2:Hid (Only w w2 M 0 11):=hd (Hor.out.drewN.trans (ho2.mono (by omega) (by omega)))
    have d1:=hm2.c1
    have d10:=hm2.c10
    have e1:=hm2.f1
    have e10:=hm2.f10
    clear ho2
    go_wp2
    go_ret
    rw[Hz.out]
    exact⟨rfl,hm2.moved,(Ho2.out.setCell _ (by omega) _).setCell _ (by omega) _⟩
   ·have hswf:sw s.data.toList p [91,58,97,108,110,117,109,58,93]=false:=by simpa using hsw
    clear hsw
    have Hz:Hid (clsN s.data.toList p clsNames=clsN s.data.toList p (clsNames.drop 3)):=HG.out.trans (by show(if sw s.data.toList p [91,58,97,108,110,117,109,58,93]=true then _ else _)=_;rw[hswf];rfl)
    go_wp2
    go_quiet ((go_at_call 64;exact Calls.quiet_of_same (hasAt_at s _ _ p [91,58,97,108,110,117,109,58,93] _ rfl rfl (by omega) (by decide) (by decide) (by omega))))
    simp only[hswf]
    go_wp2
    go_roundw
    case rel=>exact⟨3,n+nq,by go_num,by omega,by rw[Hw.out,World.drewN_drewN],Hz⟩
    case measure=>simp[intOf]
  ·by_cases hsw:sw s.data.toList p [91,58,117,112,112,101,114,58,93]=true
   ·have Hz:Hid (clsN s.data.toList p clsNames=some [91,58,117,112,112,101,114,58,93]):=HG.out.trans (by show(if sw s.data.toList p [91,58,117,112,112,101,114,58,93]=true then _ else _)=_;rw[if_pos hsw])
    go_wp2
    go_quiet ((go_at_call 64;exact Calls.quiet_of_same (hasAt_at s _ _ p [91,58,117,112,112,101,114,58,93] _ rfl rfl (by omega) (by decide) (by decide) (by omega))))
    simp only[hsw]
    go_wp2_with fail
    refine(addClass_3 M 2 _ hmr.set.drewN).mono ?_
    rintro e w2 ⟨rfl,hs2,ho2⟩
    have hm2:Mem w2 M s p bc (clsAdd [91,58,117,112,112,101,114,58,93] f):=hmr.drewN.only ho2 hs2.1 (hs2.2 _ hmr.is.drewN)
    have Ho2:Hid (Only w w2 M 0 11):=hd (Hor.out.drewN.trans (ho2.mono (by omega) (by omega)))
    have d1:=hm2.c1
    have d10:=hm2.c10
    have e1:=hm2.f1
    have e10:=hm2.f10
    clear ho2
    go_wp2
    go_ret
    rw[Hz.out]
    exact⟨rfl,hm2.moved,(Ho2.out.setCell _ (by omega) _).setCell _ (by omega) _⟩
   ·have hswf:sw s.data.toList p [91,58,117,112,112,101,114,58,93]=false:=by simpa using hsw
    clear hsw
    have Hz:Hid (clsN s.data.toList p clsNames=clsN s.data.toList p (clsNames.drop 4)):=HG.out.trans (by show(if sw s.data.toList p [91,58,117,112,112,101,114,58,93]=true then _ else _)=_;rw[hswf];rfl)
    go_wp2
    go_quiet ((go_at_call 64;exact Calls.quiet_of_same (hasAt_at s _ _ p [91,58,117,112,112,101,114,58,93] _ rfl rfl (by omega) (by decide) (by decide) (by omega))))
    simp only[hswf]
    go_wp2
    go_roundw
    case rel=>exact⟨4,n+nq,by go_num,by omega,by rw[Hw.out,World.drewN_drewN],Hz⟩
    case measure=>simp[intOf]
  ·by_cases hsw:sw s.data.toList p [91,58,108,111,119,101,114,58,93]=true
   ·have Hz:Hid (clsN s.data.toList p clsNames=some [91,58,108,111,119,101,114,58,93]):=HG.out.trans (by show(if sw s.data.toList p [91,58,108,111,119,101,114,58,93]=true then _ else _)=_;rw[if_pos hsw])
    go_wp2
    go_quiet ((go_at_call 64;exact Calls.quiet_of_same (hasAt_at s _ _ p [91,58,108,111,119,101,114,58,93] _ rfl rfl (by omega) (by decide) (by decide) (by omega))))
    simp only[hsw]
    go_wp2_with fail
    refine(addClass_4 M 2 _ hmr.set.drewN).mono ?_
    rintro e w2 ⟨rfl,hs2,ho2⟩
    have hm2:Mem w2 M s p bc (clsAdd [91,58,108,111,119,101,114,58,93] f):=hmr.drewN.only ho2 hs2.1 (hs2.2 _ hmr.is.drewN)
    have Ho2:Hid (Only w w2 M 0 11):=hd (Hor.out.drewN.trans (ho2.mono (by omega) (by omega)))
    have d1:=hm2.c1
    have d10:=hm2.c10
    have e1:=hm2.f1
    have e10:=hm2.f10
    clear ho2
    go_wp2
    go_ret
    rw[Hz.out]
    exact⟨rfl,hm2.moved,(Ho2.out.setCell _ (by omega) _).setCell _ (by omega) _⟩
   ·have hswf:sw s.data.toList p [91,58,108,111,119,101,114,58,93]=false:=by simpa using hsw
    clear hsw
    have Hz:Hid (clsN s.data.toList p clsNames=clsN s.data.toList p (clsNames.drop 5)):=HG.out.trans (by show(if sw s.data.toList p [91,58,108,111,119,101,114,58,93]=true then _ else _)=_;rw[hswf];rfl)
    go_wp2
    go_quiet ((go_at_call 64;exact Calls.quiet_of_same (hasAt_at s _ _ p [91,58,108,111,119,101,114,58,93] _ rfl rfl (by omega) (by decide) (by decide) (by omega))))
    simp only[hswf]
    go_wp2
    go_roundw
    case rel=>exact⟨5,n+nq,by go_num,by omega,by rw[Hw.out,World.drewN_drewN],Hz⟩
    case measure=>simp[intOf]
  ·by_cases hsw:sw s.data.toList p [91,58,115,112,97,99,101,58,93]=true
   ·have Hz:Hid (clsN s.data.toList p clsNames=some [91,58,115,112,97,99,101,58,93]):=HG.out.trans (by show(if sw s.data.toList p [91,58,115,112,97,99,101,58,93]=true then _ else _)=_;rw[if_pos hsw])
    go_wp2
    go_quiet ((go_at_call 64;exact Calls.quiet_of_same (hasAt_at s _ _ p [91,58,115,112,97,99,101,58,93] _ rfl rfl (by omega) (by decide) (by decide) (by omega))))
    simp only[hsw]
    go_wp2_with fail
    refine(addClass_5 M 2 _ hmr.set.drewN).mono ?_
    rintro e w2 ⟨rfl,hs2,ho2⟩
    have hm2:Mem w2 M s p bc (clsAdd [91,58,115,112,97,99,101,58,93] f):=hmr.drewN.only ho2 hs2.1 (hs2.2 _ hmr.is.drewN)
    have Ho2:Hid (Only w w2 M 0 11):=hd (Hor.out.drewN.trans (ho2.mono (by omega) (by omega)))
    have d1:=hm2.c1
    have d10:=hm2.c10
    have e1:=hm2.f1
    have e10:=hm2.f10
    clear ho2
    go_wp2
    go_ret
    rw[Hz.out]
    exact⟨rfl,hm2.moved,(Ho2.out.setCell _ (by omega) _).setCell _ (by omega) _⟩
   ·have hswf:sw s.data.toList p [91,58,115,112,97,99,101,58,93]=false:=by simpa using hsw
    clear hsw
    have Hz:Hid (clsN s.data.toList p clsNames=clsN s.data.toList p (clsNames.drop 6)):=HG.out.trans (by show(if sw s.data.toList p [91,58,115,112,97,99,101,58,93]=true then _ else _)=_;rw[hswf];rfl)
    go_wp2
    go_quiet ((go_at_call 64;exact Calls.quiet_of_same (hasAt_at s _ _ p [91,58,115,112,97,99,101,58,93] _ rfl rfl (by omega) (by decide) (by decide) (by omega))))
    simp only[hswf]
    go_wp2
    go_roundw
    case rel=>exact⟨6,n+nq,by go_num,by omega,by rw[Hw.out,World.drewN_drewN],Hz⟩
    case measure=>simp[intOf]
theorem endsAt_at(M:Nat)(s:ByteArray)(p:Nat)(bc:Bool)(i:Int)(q:Nat)(w:World)(hiq:i=q)(hm:Mem w M s p bc f):
  Calls Tryz.prog 101 #[.pointer (some ⟨M,0,none⟩),.int .i64 i] w fun e w'=>e= .returned (.bool (endB s.data.toList q))/\w'=w:=by
 subst hiq
 have:=endsAt_any M s p bc q w hm (by omega)
 rwa [Int.toNat_natCast]at this
end Go.Proofs.YtldiemjlpnachaaGreatDoor

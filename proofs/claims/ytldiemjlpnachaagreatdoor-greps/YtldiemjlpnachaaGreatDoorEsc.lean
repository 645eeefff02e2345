import Derived.Test.YtldiemjlpnachaaGreatDoorRef
set_option maxHeartbeats 1600000
set_option maxRecDepth 100000
namespace Go.Proofs.YtldiemjlpnachaaGreatDoor
open Go.RowKit
def repL(its:List It)(l m:Int):List It:=its.dropLast++ [itRep l m (its.getLast?.getD itBeg)]
theorem repL_snoc(is:List It)(i:It)(l m:Int):repL (is++ [i]) l m=is++ [itRep l m i]:=by simp[repL]
def addIt(σ:St)(it:It)(wd:Nat):St:= {σ with pos:=σ.pos+wd,inner:= {σ.inner with items:=σ.inner.items++ [it]}}
def ivT(l:List UInt8)(σ:St):Nat×St:=
 if canB σ.inner.items=false then(7,σ)
 else match ivl l (σ.pos+2)with
  |none=>(7,σ)
  |some (m,n,k)=>(0,{σ with pos:=k,inner:= {σ.inner with items:=repL σ.inner.items m n}})
def openT(σ:St):Nat×St:=
 if 9<=σ.groups then(9,σ)else(0,{σ with pos:=σ.pos+2,inner:=⟨σ.groups+1,σ.pos,[]⟩,outer:=σ.outer++ [σ.inner],groups:=σ.groups+1})
def closeT(σ:St):Nat×St:=
 match σ.outer.getLast? with
 |none=>(8,σ)
 |some r=>(0,{σ with pos:=σ.pos+2,inner:= {r with items:=r.items++ [itGrp σ.inner.number σ.inner.items]},outer:=σ.outer.dropLast,closed:=fun i=>if i=σ.inner.number then true else σ.closed i})
def escT(l:List UInt8)(σ:St):Nat×St:=
 if l.length<=σ.pos+1 then(3,σ)
 else if ch l (σ.pos+1)=40 then openT σ
 else if ch l (σ.pos+1)=41 then closeT σ
 else if ch l (σ.pos+1)=123 then ivT l σ
 else if 49<=ch l (σ.pos+1)/\ch l (σ.pos+1)<=57 then refT σ (ch l (σ.pos+1)-48)
 else if ch l (σ.pos+1)∈ [46,91,93,42,94,36,92]then(0,addIt σ (itOne (addS noS (ch l (σ.pos+1)))) 2)
 else(3,σ)
theorem readInterval_some(s:ByteArray)(i:Int)(a:Nat)(m n:Int)(k:Nat)(w:World)(hia:i=a)(hr:ivl s.data.toList a=some (m,n,k))(hs:s.size<=1000)(h1:a<=2000):
  Calls Tryz.prog 79 #[.string s,.int .i64 i] w fun e w'=>e= .returned (.tuple #[.int .i64 m,.int .i64 n,.int .i64 k,.bool true])/\w'=w:=by
 subst hia
 have:=readInterval_any s a w hs (by omega) (by omega)
 rw[Int.toNat_natCast,hr]at this
 exact this
theorem readInterval_none(s:ByteArray)(i:Int)(a:Nat)(w:World)(hia:i=a)(hr:ivl s.data.toList a=none)(hs:s.size<=1000)(h1:a<=2000):
  Calls Tryz.prog 79 #[.string s,.int .i64 i] w fun e w'=>e= .returned (.tuple #[.int .i64 0,.int .i64 0,.int .i64 0,.bool false])/\w'=w:=by
 subst hia
 have:=readInterval_any s a w hs (by omega) (by omega)
 rw[Int.toNat_natCast,hr]at this
 exact this
theorem below_drewN(B:Nat)(w:World)(n:Nat):Below B w (w.drewN n):=⟨rfl,rfl,rfl,Nat.le_refl _,fun _ _=>rfl⟩
theorem Rd.drewN{w:World}{base R n:Nat}{s:ByteArray}{H:Fins}{σ:St}(h:Rd w base R s H σ):Rd (w.drewN n) base R s H σ:=h.below (below_drewN _ _ _)
theorem canRepeat_b{w:World}{base R:Nat}{s:ByteArray}{H:Fins}{σ:St}(b:Bool)(hb:canB σ.inner.items=b)(h:Rd w base R s H σ)(hn:σ.inner.items.length<=1000):
  Calls Tryz.prog 42 #[.pointer (some ⟨R,0,none⟩)] w fun e w'=>e= .returned (.bool b)/\w'=w:=by
 subst hb
 exact canRepeat_any h hn
theorem interval_rd{w:World}{base R:Nat}{s:ByteArray}{H:Fins}{σ:St}(h:Rd w base R s H σ)(hs:s.size<=60)(hp:σ.pos<=1000)(hi:σ.inner.items.length<=1000):
  Calls Tryz.prog 60 #[.pointer (some ⟨R,0,none⟩)] w fun e w'=>e= .returned (.int .i64 (ivT s.data.toList σ).1)/\(∃H',Rd w' base R s H' (ivT s.data.toList σ).2)/\Below R w w':=by
 have c0:=h.c0
 have c1:=h.c1
 have w2':=wrapI ((σ.pos:Int)+2) (by omega) (by omega)
 cases hc:canB σ.inner.items
 ·have Hz:Hid (ivT s.data.toList σ=(7,σ)):=by unfold ivT;rw[if_pos hc];exact hd rfl
  have Hc:=hd hc
  clear hc
  go_enter Tryz.func60,Tryz.ntmps60
  go_wp2_with (go_at_call 42;refine(canRepeat_b false Hc.out (by exact h) hi).mono ?_;rintro e w' ⟨rfl,rfl⟩)
  go_ret
  rw[Hz.out]
  exact⟨rfl,⟨H,h⟩,Below.refl _ _⟩
 ·have Hc:=hd hc
  cases hv:ivl s.data.toList (σ.pos+2)with
  |none=>
   have Hz:Hid (ivT s.data.toList σ=(7,σ)):=by unfold ivT;rw[if_neg (by simp[hc]),hv];exact hd rfl
   have Hv:=hd hv
   clear hc hv
   go_enter Tryz.func60,Tryz.ntmps60
   go_wp2_with (go_at_call 42;refine(canRepeat_b true Hc.out (by exact h) hi).mono ?_;rintro e w' ⟨rfl,rfl⟩)
   go_quiet ((go_at_call 79;exact Calls.quiet_of_same (readInterval_none s _ (σ.pos+2) _ (by omega) Hv.out (by omega) (by omega))))
   go_wp2
   go_ret
   rw[Hz.out]
   exact⟨rfl,⟨H,h.drewN⟩,below_drewN _ _ _⟩
  |some t=>
   obtain⟨m,n,k⟩:=t
   have hbd:=ivl_bd hv
   have hlm:=ivl_le hv
   rw[len_data]at hbd
   have Hz:Hid (ivT s.data.toList σ=(0,{σ with pos:=k,inner:= {σ.inner with items:=repL σ.inner.items m n}})):=by unfold ivT;rw[if_neg (by simp[hc]),hv];exact hd rfl
   have Hv:=hd hv
   obtain⟨is,it,hit⟩:∃is it,σ.inner.items=is++ [it]:=by
    rcases list_snoc σ.inner.items with e|e
    ·rw[e]at hc;cases hc
    ·exact e
   have hil:is.length<=1000:=by rw[hit]at hi;simp at hi;omega
   have Hit:=hd hit
   clear hc hv hit
   go_enter Tryz.func60,Tryz.ntmps60
   go_wp2_with (go_at_call 42;refine(canRepeat_b true Hc.out (by exact h) hi).mono ?_;rintro e w' ⟨rfl,rfl⟩)
   go_quiet ((go_at_call 79;exact Calls.quiet_of_same (readInterval_some s _ (σ.pos+2) m n k _ (by omega) Hv.out (by omega) (by omega))))
   go_wp2_with fail
   refine(repeat_rd (by exact h.drewN) is it Hit.out m n (by omega) (by omega) (by omega) hil).mono ?_
   rintro e w2 ⟨rfl,H',hrd,hbw⟩
   have d1:=hrd.c1
   have g1:=hrd.fz 1 (by omega)
   have HR:=hd (hrd.moved k)
   have HW:=hd hbw
   clear hrd hbw c0 c1
   go_wp2
   go_ret
   rw[Hz.out]
   refine⟨rfl,⟨H',?_⟩,(below_drewN _ _ _).trans (HW.out.trans HR.out.2)⟩
   have:=HR.out.1
   rw[Hit.out,repL_snoc]
   exact this
end Go.Proofs.YtldiemjlpnachaaGreatDoor
namespace Go.Proofs.YtldiemjlpnachaaGreatDoor
open Go.RowKit
theorem reference_at{w:World}{base R:Nat}{s:ByteArray}{H:Fins}{σ:St}(h:Rd w base R s H σ)(i:Int)(n:Nat)(hin:i=n)(hn1:1<=n)(hn9:n<=9)(hp:σ.pos<=1000)(hi:σ.inner.items.length<=1000)(hrf:σ.refs<=2):
  Calls Tryz.prog 61 #[.pointer (some ⟨R,0,none⟩),.int .i64 i] w fun e w'=>e= .returned (.int .i64 (refT σ n).1)/\Rd w' base R s H (refT σ n).2/\Below R w w':=by
 subst hin
 exact reference_rd h n hn1 hn9 hp hi hrf
theorem openGroup_T{w:World}{base R:Nat}{s:ByteArray}{H:Fins}{σ:St}(h:Rd w base R s H σ)(hp:σ.pos<=1000)(hn:σ.outer.length<=1000)(hgr:σ.groups<=9):
  Calls Tryz.prog 58 #[.pointer (some ⟨R,0,none⟩)] w fun e w'=>e= .returned (.int .i64 (openT σ).1)/\(∃H',Rd w' base R s H' (openT σ).2)/\Below R w w':=by
 by_cases h9:9<=σ.groups
 ·have hz:openT σ=(9,σ):=by unfold openT;rw[if_pos h9]
  rw[hz]
  refine(openGroup_no h.c6 h9 (by omega)).mono ?_
  rintro e w' ⟨rfl,rfl⟩
  exact⟨rfl,⟨H,h⟩,Below.refl _ _⟩
 ·have hz:openT σ=(0,{σ with pos:=σ.pos+2,inner:=⟨σ.groups+1,σ.pos,[]⟩,outer:=σ.outer++ [σ.inner],groups:=σ.groups+1}):=by unfold openT;rw[if_neg h9]
  rw[hz]
  refine(openGroup_rd h hp hn (by omega)).mono ?_
  rintro e w' ⟨rfl,hr,hb⟩
  exact⟨rfl,⟨H,hr⟩,hb⟩
theorem closeGroup_T{w:World}{base R:Nat}{s:ByteArray}{H:Fins}{σ:St}(h:Rd w base R s H σ)(hp:σ.pos<=1000)(hn:σ.outer.length<=1000)(hin:σ.inner.items.length<=1000)(hrn:∀r∈σ.outer,r.items.length<=1000)(hnum:σ.inner.number<=9):
  Calls Tryz.prog 59 #[.pointer (some ⟨R,0,none⟩)] w fun e w'=>e= .returned (.int .i64 (closeT σ).1)/\(∃H',Rd w' base R s H' (closeT σ).2)/\Below R w w':=by
 rcases list_snoc σ.outer with ho|⟨os,r,ho⟩
 ·have hz:closeT σ=(8,σ):=by unfold closeT;rw[ho];rfl
  rw[hz]
  obtain⟨vi,vo,rs,_,h5,_,hown,_,_⟩:=h.rows
  rw[ho]at hown
  have hvo:∃ao cp,vo= .slice ao 0 cp:=by
   rcases hown.2 with⟨rfl,_⟩|⟨g,cap,_,rfl,_⟩
   ·exact⟨none,0,rfl⟩
   ·exact⟨_,_,rfl⟩
  obtain⟨ao,cp,rfl⟩:=hvo
  refine(closeGroup_no h5).mono ?_
  rintro e w' ⟨rfl,rfl⟩
  exact⟨rfl,⟨H,h⟩,Below.refl _ _⟩
 ·have hz:closeT σ=(0,{σ with pos:=σ.pos+2,inner:= {r with items:=r.items++ [itGrp σ.inner.number σ.inner.items]},outer:=os,closed:=fun i=>if i=σ.inner.number then true else σ.closed i}):=by unfold closeT;rw[ho];simp
  rw[hz]
  refine(closeGroup_rd h os r ho hp (by rw[ho]at hn;simp at hn;omega) hin (hrn r (by rw[ho];simp)) hnum).mono ?_
  rintro e w' ⟨rfl,H',hr,hb⟩
  exact⟨rfl,⟨H',hr⟩,hb⟩
def Bd(σ:St):Prop:=σ.pos<=1000/\σ.inner.items.length<=1000/\σ.outer.length<=1000/\σ.groups<=9/\σ.refs<=2/\σ.inner.number<=9/\∀r∈σ.outer,r.items.length<=1000
theorem escape_end{w:World}{base R:Nat}{s:ByteArray}{H:Fins}{σ:St}(h:Rd w base R s H σ)(hB:Bd σ)(hl:s.size<=σ.pos+1):
  Calls Tryz.prog 37 #[.pointer (some ⟨R,0,none⟩)] w fun e w'=>e= .returned (.int .i64 (escT s.data.toList σ).1)/\(∃H',Rd w' base R s H' (escT s.data.toList σ).2)/\Below R w w':=by
 have Hz:Hid (escT s.data.toList σ=(3,σ)):=by unfold escT;rw[if_pos (by rw[len_data];exact hl)];exact hd rfl
 have hp:=hB.1
 have c0:=h.c0
 have c1:=h.c1
 have w1':=wrapI ((σ.pos:Int)+1) (by omega) (by omega)
 have hlI:(s.size:Int)<=(σ.pos:Int)+1:=by omega
 have hlB:decide ((s.size:Int)<=(σ.pos:Int)+1)=true:=by simpa using hlI
 have HB:=hd hB
 clear hB
 go_enter Tryz.func37,Tryz.ntmps37
 go_wp2
 go_quiet (fail)
 go_wp2
 go_ret
 rw[Hz.out]
 exact⟨rfl,⟨H,h.drewN⟩,below_drewN _ _ _⟩
theorem escape_open{w:World}{base R:Nat}{s:ByteArray}{H:Fins}{σ:St}(h:Rd w base R s H σ)(hB:Bd σ)(hl:σ.pos+1<s.size)(hc:(s[σ.pos+1].toNat:Int)=40):
  Calls Tryz.prog 37 #[.pointer (some ⟨R,0,none⟩)] w fun e w'=>e= .returned (.int .i64 (openT σ).1)/\(∃H',Rd w' base R s H' (openT σ).2)/\Below R w w':=by
 have hp:=hB.1
 have c0:=h.c0
 have c1:=h.c1
 have w1':=wrapI ((σ.pos:Int)+1) (by omega) (by omega)
 have q0:(0:Int)<=(σ.pos:Int)+1:=by omega
 have q1:(σ.pos:Int)+1<(s.size:Int):=by omega
 have hlB:decide ((s.size:Int)<=(σ.pos:Int)+1)=false:=by simp;omega
 have htn:((σ.pos:Int)+1).toNat=σ.pos+1:=by omega
 have HB:=hd hB
 clear hB
 go_enter Tryz.func37,Tryz.ntmps37
 go_wp2
 go_quiet (fail)
 go_wp2
 go_quiet (fail)
 go_wp2_with fail
 refine(openGroup_T (by exact h.drewN) hp HB.out.2.2.1 HB.out.2.2.2.1).mono ?_
 rintro e w2 ⟨rfl,hr,hbw⟩
 have HR:=hd hr
 have HW:=hd hbw
 clear hr hbw
 go_wp2
 go_ret
 exact⟨rfl,HR.out,(below_drewN _ _ _).trans HW.out⟩
theorem escape_close{w:World}{base R:Nat}{s:ByteArray}{H:Fins}{σ:St}(h:Rd w base R s H σ)(hB:Bd σ)(hl:σ.pos+1<s.size)(hc:(s[σ.pos+1].toNat:Int)=41):
  Calls Tryz.prog 37 #[.pointer (some ⟨R,0,none⟩)] w fun e w'=>e= .returned (.int .i64 (closeT σ).1)/\(∃H',Rd w' base R s H' (closeT σ).2)/\Below R w w':=by
 have hp:=hB.1
 have c0:=h.c0
 have c1:=h.c1
 have w1':=wrapI ((σ.pos:Int)+1) (by omega) (by omega)
 have q0:(0:Int)<=(σ.pos:Int)+1:=by omega
 have q1:(σ.pos:Int)+1<(s.size:Int):=by omega
 have hlB:decide ((s.size:Int)<=(σ.pos:Int)+1)=false:=by simp;omega
 have htn:((σ.pos:Int)+1).toNat=σ.pos+1:=by omega
 have HB:=hd hB
 clear hB
 go_enter Tryz.func37,Tryz.ntmps37
 go_wp2
 go_quiet (fail)
 go_wp2
 go_quiet (fail)
 go_wp2_with fail
 refine(closeGroup_T (by exact h.drewN) hp HB.out.2.2.1 HB.out.2.1 HB.out.2.2.2.2.2.2 HB.out.2.2.2.2.2.1).mono ?_
 rintro e w2 ⟨rfl,hr,hbw⟩
 have HR:=hd hr
 have HW:=hd hbw
 clear hr hbw
 go_wp2
 go_ret
 exact⟨rfl,HR.out,(below_drewN _ _ _).trans HW.out⟩
theorem escape_ivl{w:World}{base R:Nat}{s:ByteArray}{H:Fins}{σ:St}(h:Rd w base R s H σ)(hs:s.size<=60)(hB:Bd σ)(hl:σ.pos+1<s.size)(hc:(s[σ.pos+1].toNat:Int)=123):
  Calls Tryz.prog 37 #[.pointer (some ⟨R,0,none⟩)] w fun e w'=>e= .returned (.int .i64 (ivT s.data.toList σ).1)/\(∃H',Rd w' base R s H' (ivT s.data.toList σ).2)/\Below R w w':=by
 have hp:=hB.1
 have c0:=h.c0
 have c1:=h.c1
 have w1':=wrapI ((σ.pos:Int)+1) (by omega) (by omega)
 have q0:(0:Int)<=(σ.pos:Int)+1:=by omega
 have q1:(σ.pos:Int)+1<(s.size:Int):=by omega
 have hlB:decide ((s.size:Int)<=(σ.pos:Int)+1)=false:=by simp;omega
 have htn:((σ.pos:Int)+1).toNat=σ.pos+1:=by omega
 have HB:=hd hB
 clear hB
 go_enter Tryz.func37,Tryz.ntmps37
 go_wp2
 go_quiet (fail)
 go_wp2
 go_quiet (fail)
 go_wp2_with fail
 refine(interval_rd (by exact h.drewN) hs hp HB.out.2.1).mono ?_
 rintro e w2 ⟨rfl,hr,hbw⟩
 have HR:=hd hr
 have HW:=hd hbw
 clear hr hbw
 go_wp2
 go_ret
 exact⟨rfl,HR.out,(below_drewN _ _ _).trans HW.out⟩
theorem escape_ref1{w:World}{base R:Nat}{s:ByteArray}{H:Fins}{σ:St}(h:Rd w base R s H σ)(hB:Bd σ)(hl:σ.pos+1<s.size)(hc:(s[σ.pos+1].toNat:Int)=49):
  Calls Tryz.prog 37 #[.pointer (some ⟨R,0,none⟩)] w fun e w'=>e= .returned (.int .i64 (refT σ 1).1)/\(∃H',Rd w' base R s H' (refT σ 1).2)/\Below R w w':=by
 have hp:=hB.1
 have c0:=h.c0
 have c1:=h.c1
 have w1':=wrapI ((σ.pos:Int)+1) (by omega) (by omega)
 have q0:(0:Int)<=(σ.pos:Int)+1:=by omega
 have q1:(σ.pos:Int)+1<(s.size:Int):=by omega
 have hlB:decide ((s.size:Int)<=(σ.pos:Int)+1)=false:=by simp;omega
 have htn:((σ.pos:Int)+1).toNat=σ.pos+1:=by omega
 have HB:=hd hB
 clear hB
 go_enter Tryz.func37,Tryz.ntmps37
 go_wp2
 go_quiet (fail)
 go_wp2
 go_quiet (fail)
 go_wp2_with fail
 refine(reference_at (by exact h.drewN) _ 1 (by rfl) (by omega) (by omega) hp HB.out.2.1 HB.out.2.2.2.2.1).mono ?_
 rintro e w2 ⟨rfl,hr,hbw⟩
 have HR:=hd hr
 have HW:=hd hbw
 clear hr hbw
 go_wp2
 go_ret
 exact⟨rfl,⟨H,HR.out⟩,(below_drewN _ _ _).trans HW.out⟩
theorem escape_ref2{w:World}{base R:Nat}{s:ByteArray}{H:Fins}{σ:St}(h:Rd w base R s H σ)(hB:Bd σ)(hl:σ.pos+1<s.size)(hc:(s[σ.pos+1].toNat:Int)=50):
  Calls Tryz.prog 37 #[.pointer (some ⟨R,0,none⟩)] w fun e w'=>e= .returned (.int .i64 (refT σ 2).1)/\(∃H',Rd w' base R s H' (refT σ 2).2)/\Below R w w':=by
 have hp:=hB.1
 have c0:=h.c0
 have c1:=h.c1
 have w1':=wrapI ((σ.pos:Int)+1) (by omega) (by omega)
 have q0:(0:Int)<=(σ.pos:Int)+1:=by omega
 have q1:(σ.pos:Int)+1<(s.size:Int):=by omega
 have hlB:decide ((s.size:Int)<=(σ.pos:Int)+1)=false:=by simp;omega
 have htn:((σ.pos:Int)+1).toNat=σ.pos+1:=by omega
 have HB:=hd hB
 clear hB
 go_enter Tryz.func37,Tryz.ntmps37
 go_wp2
 go_quiet (fail)
 go_wp2
 go_quiet (fail)
 go_wp2_with fail
 refine(reference_at (by exact h.drewN) _ 2 (by rfl) (by omega) (by omega) hp HB.out.2.1 HB.out.2.2.2.2.1).mono ?_
 rintro e w2 ⟨rfl,hr,hbw⟩
 have HR:=hd hr
 have HW:=hd hbw
 clear hr hbw
 go_wp2
 go_ret
 exact⟨rfl,⟨H,HR.out⟩,(below_drewN _ _ _).trans HW.out⟩
theorem escape_ref3{w:World}{base R:Nat}{s:ByteArray}{H:Fins}{σ:St}(h:Rd w base R s H σ)(hB:Bd σ)(hl:σ.pos+1<s.size)(hc:(s[σ.pos+1].toNat:Int)=51):
  Calls Tryz.prog 37 #[.pointer (some ⟨R,0,none⟩)] w fun e w'=>e= .returned (.int .i64 (refT σ 3).1)/\(∃H',Rd w' base R s H' (refT σ 3).2)/\Below R w w':=by
 have hp:=hB.1
 have c0:=h.c0
 have c1:=h.c1
 have w1':=wrapI ((σ.pos:Int)+1) (by omega) (by omega)
 have q0:(0:Int)<=(σ.pos:Int)+1:=by omega
 have q1:(σ.pos:Int)+1<(s.size:Int):=by omega
 have hlB:decide ((s.size:Int)<=(σ.pos:Int)+1)=false:=by simp;omega
 have htn:((σ.pos:Int)+1).toNat=σ.pos+1:=by omega
 have HB:=hd hB
 clear hB
 go_enter Tryz.func37,Tryz.ntmps37
 go_wp2
 go_quiet (fail)
 go_wp2
 go_quiet (fail)
 go_wp2_with fail
 refine(reference_at (by exact h.drewN) _ 3 (by rfl) (by omega) (by omega) hp HB.out.2.1 HB.out.2.2.2.2.1).mono ?_
 rintro e w2 ⟨rfl,hr,hbw⟩
 have HR:=hd hr
 have HW:=hd hbw
 clear hr hbw
 go_wp2
 go_ret
 exact⟨rfl,⟨H,HR.out⟩,(below_drewN _ _ _).trans HW.out⟩
theorem escape_ref4{w:World}{base R:Nat}{s:ByteArray}{H:Fins}{σ:St}(h:Rd w base R s H σ)(hB:Bd σ)(hl:σ.pos+1<s.size)(hc:(s[σ.pos+1].toNat:Int)=52):
  Calls Tryz.prog 37 #[.pointer (some ⟨R,0,none⟩)] w fun e w'=>e= .returned (.int .i64 (refT σ 4).1)/\(∃H',Rd w' base R s H' (refT σ 4).2)/\Below R w w':=by
 have hp:=hB.1
 have c0:=h.c0
 have c1:=h.c1
 have w1':=wrapI ((σ.pos:Int)+1) (by omega) (by omega)
 have q0:(0:Int)<=(σ.pos:Int)+1:=by omega
 have q1:(σ.pos:Int)+1<(s.size:Int):=by omega
 have hlB:decide ((s.size:Int)<=(σ.pos:Int)+1)=false:=by simp;omega
 have htn:((σ.pos:Int)+1).toNat=σ.pos+1:=by omega
 have HB:=hd hB
 clear hB
 go_enter Tryz.func37,Tryz.ntmps37
 go_wp2
 go_quiet (fail)
 go_wp2
 go_quiet (fail)
 go_wp2_with fail
 refine(reference_at (by exact h.drewN) _ 4 (by rfl) (by omega) (by omega) hp HB.out.2.1 HB.out.2.2.2.2.1).mono ?_
 rintro e w2 ⟨rfl,hr,hbw⟩
 have HR:=hd hr
 have HW:=hd hbw
 clear hr hbw
 go_wp2
 go_ret
 exact⟨rfl,⟨H,HR.out⟩,(below_drewN _ _ _).trans HW.out⟩
theorem escape_ref5{w:World}{base R:Nat}{s:ByteArray}{H:Fins}{σ:St}(h:Rd w base R s H σ)(hB:Bd σ)(hl:σ.pos+1<s.size)(hc:(s[σ.pos+1].toNat:Int)=53):
  Calls Tryz.prog 37 #[.pointer (some ⟨R,0,none⟩)] w fun e w'=>e= .returned (.int .i64 (refT σ 5).1)/\(∃H',Rd w' base R s H' (refT σ 5).2)/\Below R w w':=by
 have hp:=hB.1
 have c0:=h.c0
 have c1:=h.c1
 have w1':=wrapI ((σ.pos:Int)+1) (by omega) (by omega)
 have q0:(0:Int)<=(σ.pos:Int)+1:=by omega
 have q1:(σ.pos:Int)+1<(s.size:Int):=by omega
 have hlB:decide ((s.size:Int)<=(σ.pos:Int)+1)=false:=by simp;omega
 have htn:((σ.pos:Int)+1).toNat=σ.pos+1:=by omega
 have HB:=hd hB
 clear hB
 go_enter Tryz.func37,Tryz.ntmps37
 go_wp2
 go_quiet (fail)
 go_wp2
 go_quiet (fail)
 go_wp2_with fail
 refine(reference_at (by exact h.drewN) _ 5 (by rfl) (by omega) (by omega) hp HB.out.2.1 HB.out.2.2.2.2.1).mono ?_
 rintro e w2 ⟨rfl,hr,hbw⟩
 have HR:=hd hr
 have HW:=hd hbw
 clear hr hbw
 go_wp2
 go_ret
 exact⟨rfl,⟨H,HR.out⟩,(below_drewN _ _ _).trans HW.out⟩
theorem escape_ref6{w:World}{base R:Nat}{s:ByteArray}{H:Fins}{σ:St}(h:Rd w base R s H σ)(hB:Bd σ)(hl:σ.pos+1<s.size)(hc:(s[σ.pos+1].toNat:Int)=54):
  Calls Tryz.prog 37 #[.pointer (some ⟨R,0,none⟩)] w fun e w'=>e= .returned (.int .i64 (refT σ 6).1)/\(∃H',Rd w' base R s H' (refT σ 6).2)/\Below R w w':=by
 have hp:=hB.1
 have c0:=h.c0
 have c1:=h.c1
 have w1':=wrapI ((σ.pos:Int)+1) (by omega) (by omega)
 have q0:(0:Int)<=(σ.pos:Int)+1:=by omega
 have q1:(σ.pos:Int)+1<(s.size:Int):=by omega
 have hlB:decide ((s.size:Int)<=(σ.pos:Int)+1)=false:=by simp;omega
 have htn:((σ.pos:Int)+1).toNat=σ.pos+1:=by omega
 have HB:=hd hB
 clear hB
 go_enter Tryz.func37,Tryz.ntmps37
 go_wp2
 go_quiet (fail)
 go_wp2
 go_quiet (fail)
 go_wp2_with fail
 refine(reference_at (by exact h.drewN) _ 6 (by rfl) (by omega) (by omega) hp HB.out.2.1 HB.out.2.2.2.2.1).mono ?_
 rintro e w2 ⟨rfl,hr,hbw⟩
 have HR:=hd hr
 have HW:=hd hbw
 clear hr hbw
 go_wp2
 go_ret
 exact⟨rfl,⟨H,HR.out⟩,(below_drewN _ _ _).trans HW.out⟩
theorem escape_ref7{w:World}{base R:Nat}{s:ByteArray}{H:Fins}{σ:St}(h:Rd w base R s H σ)(hB:Bd σ)(hl:σ.pos+1<s.size)(hc:(s[σ.pos+1].toNat:Int)=55):
  Calls Tryz.prog 37 #[.pointer (some ⟨R,0,none⟩)] w fun e w'=>e= .returned (.int .i64 (refT σ 7).1)/\(∃H',Rd w' base R s H' (refT σ 7).2)/\Below R w w':=by
 have hp:=hB.1
 have c0:=h.c0
 have c1:=h.c1
 have w1':=wrapI ((σ.pos:Int)+1) (by omega) (by omega)
 have q0:(0:Int)<=(σ.pos:Int)+1:=by omega
 have q1:(σ.pos:Int)+1<(s.size:Int):=by omega
 have hlB:decide ((s.size:Int)<=(σ.pos:Int)+1)=false:=by simp;omega
 have htn:((σ.pos:Int)+1).toNat=σ.pos+1:=by omega
 have HB:=hd hB
 clear hB
 go_enter Tryz.func37,Tryz.ntmps37
 go_wp2
 go_quiet (fail)
 go_wp2
 go_quiet (fail)
 go_wp2_with fail
 refine(reference_at (by exact h.drewN) _ 7 (by rfl) (by omega) (by omega) hp HB.out.2.1 HB.out.2.2.2.2.1).mono ?_
 rintro e w2 ⟨rfl,hr,hbw⟩
 have HR:=hd hr
 have HW:=hd hbw
 clear hr hbw
 go_wp2
 go_ret
 exact⟨rfl,⟨H,HR.out⟩,(below_drewN _ _ _).trans HW.out⟩
theorem escape_ref8{w:World}{base R:Nat}{s:ByteArray}{H:Fins}{σ:St}(h:Rd w base R s H σ)(hB:Bd σ)(hl:σ.pos+1<s.size)(hc:(s[σ.pos+1].toNat:Int)=56):
  Calls Tryz.prog 37 #[.pointer (some ⟨R,0,none⟩)] w fun e w'=>e= .returned (.int .i64 (refT σ 8).1)/\(∃H',Rd w' base R s H' (refT σ 8).2)/\Below R w w':=by
 have hp:=hB.1
 have c0:=h.c0
 have c1:=h.c1
 have w1':=wrapI ((σ.pos:Int)+1) (by omega) (by omega)
 have q0:(0:Int)<=(σ.pos:Int)+1:=by omega
 have q1:(σ.pos:Int)+1<(s.size:Int):=by omega
 have hlB:decide ((s.size:Int)<=(σ.pos:Int)+1)=false:=by simp;omega
 have htn:((σ.pos:Int)+1).toNat=σ.pos+1:=by omega
 have HB:=hd hB
 clear hB
 go_enter Tryz.func37,Tryz.ntmps37
 go_wp2
 go_quiet (fail)
 go_wp2
 go_quiet (fail)
 go_wp2_with fail
 refine(reference_at (by exact h.drewN) _ 8 (by rfl) (by omega) (by omega) hp HB.out.2.1 HB.out.2.2.2.2.1).mono ?_
 rintro e w2 ⟨rfl,hr,hbw⟩
 have HR:=hd hr
 have HW:=hd hbw
 clear hr hbw
 go_wp2
 go_ret
 exact⟨rfl,⟨H,HR.out⟩,(below_drewN _ _ _).trans HW.out⟩
theorem escape_ref9{w:World}{base R:Nat}{s:ByteArray}{H:Fins}{σ:St}(h:Rd w base R s H σ)(hB:Bd σ)(hl:σ.pos+1<s.size)(hc:(s[σ.pos+1].toNat:Int)=57):
  Calls Tryz.prog 37 #[.pointer (some ⟨R,0,none⟩)] w fun e w'=>e= .returned (.int .i64 (refT σ 9).1)/\(∃H',Rd w' base R s H' (refT σ 9).2)/\Below R w w':=by
 have hp:=hB.1
 have c0:=h.c0
 have c1:=h.c1
 have w1':=wrapI ((σ.pos:Int)+1) (by omega) (by omega)
 have q0:(0:Int)<=(σ.pos:Int)+1:=by omega
 have q1:(σ.pos:Int)+1<(s.size:Int):=by omega
 have hlB:decide ((s.size:Int)<=(σ.pos:Int)+1)=false:=by simp;omega
 have htn:((σ.pos:Int)+1).toNat=σ.pos+1:=by omega
 have HB:=hd hB
 clear hB
 go_enter Tryz.func37,Tryz.ntmps37
 go_wp2
 go_quiet (fail)
 go_wp2
 go_quiet (fail)
 go_wp2_with fail
 refine(reference_at (by exact h.drewN) _ 9 (by rfl) (by omega) (by omega) hp HB.out.2.1 HB.out.2.2.2.2.1).mono ?_
 rintro e w2 ⟨rfl,hr,hbw⟩
 have HR:=hd hr
 have HW:=hd hbw
 clear hr hbw
 go_wp2
 go_ret
 exact⟨rfl,⟨H,HR.out⟩,(below_drewN _ _ _).trans HW.out⟩
theorem escape_put46{w:World}{base R:Nat}{s:ByteArray}{H:Fins}{σ:St}(h:Rd w base R s H σ)(hB:Bd σ)(hl:σ.pos+1<s.size)(hc:(s[σ.pos+1].toNat:Int)=46):
  Calls Tryz.prog 37 #[.pointer (some ⟨R,0,none⟩)] w fun e w'=>e= .returned (.int .i64 (((0,addIt σ (itOne (addS noS s[σ.pos+1].toNat)) 2):Nat×St)).1)/\(∃H',Rd w' base R s H' (((0,addIt σ (itOne (addS noS s[σ.pos+1].toNat)) 2):Nat×St)).2)/\Below R w w':=by
 have hp:=hB.1
 have c0:=h.c0
 have c1:=h.c1
 have w1':=wrapI ((σ.pos:Int)+1) (by omega) (by omega)
 have q0:(0:Int)<=(σ.pos:Int)+1:=by omega
 have q1:(σ.pos:Int)+1<(s.size:Int):=by omega
 have hlB:decide ((s.size:Int)<=(σ.pos:Int)+1)=false:=by simp;omega
 have htn:((σ.pos:Int)+1).toNat=σ.pos+1:=by omega
 have HB:=hd hB
 clear hB
 go_enter Tryz.func37,Tryz.ntmps37
 go_wp2
 go_quiet (fail)
 go_wp2
 go_quiet (fail)
 go_wp2_with fail
 refine(oneByte_any _ _ (by omega) (by omega)).mono ?_
 rintro e w2 ⟨a0,a1,a2,a3,a4,a5,a6,a7,rfl,hw8,hb2⟩
 have H8:Hid (W8 a0 a1 a2 a3 a4 a5 a6 a7 (addS noS s[σ.pos+1].toNat)):=hd (by rw[show s[σ.pos+1].toNat=46 by omega];simpa[htn]using hw8)
 clear hw8
 have hr2:=h.drewN.below hb2
 have HW2:=hd ((below_drewN R w _).trans (hb2.mono (Nat.le_of_lt (by have:=h.hR;have:=h.hb;show R<w.heap.size;omega))))
 clear hb2 c0 c1
 go_wp2_with fail
 refine(put_rd hr2 2 (by omega) hp HB.out.2.1 0 a0 a1 a2 a3 a4 a5 a6 a7 0 0 0 none 0 0 (itOne (addS noS s[σ.pos+1].toNat)) (ok_one H _ H8.out)).mono ?_
 rintro e w3 ⟨rfl,hr,hbw⟩
 have HR:=hd hr
 have HW:=hd hbw
 clear hr hbw hr2
 go_wp2
 go_ret
 exact⟨rfl,⟨H,HR.out⟩,HW2.out.trans HW.out⟩
theorem escape_put91{w:World}{base R:Nat}{s:ByteArray}{H:Fins}{σ:St}(h:Rd w base R s H σ)(hB:Bd σ)(hl:σ.pos+1<s.size)(hc:(s[σ.pos+1].toNat:Int)=91):
  Calls Tryz.prog 37 #[.pointer (some ⟨R,0,none⟩)] w fun e w'=>e= .returned (.int .i64 (((0,addIt σ (itOne (addS noS s[σ.pos+1].toNat)) 2):Nat×St)).1)/\(∃H',Rd w' base R s H' (((0,addIt σ (itOne (addS noS s[σ.pos+1].toNat)) 2):Nat×St)).2)/\Below R w w':=by
 have hp:=hB.1
 have c0:=h.c0
 have c1:=h.c1
 have w1':=wrapI ((σ.pos:Int)+1) (by omega) (by omega)
 have q0:(0:Int)<=(σ.pos:Int)+1:=by omega
 have q1:(σ.pos:Int)+1<(s.size:Int):=by omega
 have hlB:decide ((s.size:Int)<=(σ.pos:Int)+1)=false:=by simp;omega
 have htn:((σ.pos:Int)+1).toNat=σ.pos+1:=by omega
 have HB:=hd hB
 clear hB
 go_enter Tryz.func37,Tryz.ntmps37
 go_wp2
 go_quiet (fail)
 go_wp2
 go_quiet (fail)
 go_wp2_with fail
 refine(oneByte_any _ _ (by omega) (by omega)).mono ?_
 rintro e w2 ⟨a0,a1,a2,a3,a4,a5,a6,a7,rfl,hw8,hb2⟩
 have H8:Hid (W8 a0 a1 a2 a3 a4 a5 a6 a7 (addS noS s[σ.pos+1].toNat)):=hd (by rw[show s[σ.pos+1].toNat=91 by omega];simpa[htn]using hw8)
 clear hw8
 have hr2:=h.drewN.below hb2
 have HW2:=hd ((below_drewN R w _).trans (hb2.mono (Nat.le_of_lt (by have:=h.hR;have:=h.hb;show R<w.heap.size;omega))))
 clear hb2 c0 c1
 go_wp2_with fail
 refine(put_rd hr2 2 (by omega) hp HB.out.2.1 0 a0 a1 a2 a3 a4 a5 a6 a7 0 0 0 none 0 0 (itOne (addS noS s[σ.pos+1].toNat)) (ok_one H _ H8.out)).mono ?_
 rintro e w3 ⟨rfl,hr,hbw⟩
 have HR:=hd hr
 have HW:=hd hbw
 clear hr hbw hr2
 go_wp2
 go_ret
 exact⟨rfl,⟨H,HR.out⟩,HW2.out.trans HW.out⟩
theorem escape_put93{w:World}{base R:Nat}{s:ByteArray}{H:Fins}{σ:St}(h:Rd w base R s H σ)(hB:Bd σ)(hl:σ.pos+1<s.size)(hc:(s[σ.pos+1].toNat:Int)=93):
  Calls Tryz.prog 37 #[.pointer (some ⟨R,0,none⟩)] w fun e w'=>e= .returned (.int .i64 (((0,addIt σ (itOne (addS noS s[σ.pos+1].toNat)) 2):Nat×St)).1)/\(∃H',Rd w' base R s H' (((0,addIt σ (itOne (addS noS s[σ.pos+1].toNat)) 2):Nat×St)).2)/\Below R w w':=by
 have hp:=hB.1
 have c0:=h.c0
 have c1:=h.c1
 have w1':=wrapI ((σ.pos:Int)+1) (by omega) (by omega)
 have q0:(0:Int)<=(σ.pos:Int)+1:=by omega
 have q1:(σ.pos:Int)+1<(s.size:Int):=by omega
 have hlB:decide ((s.size:Int)<=(σ.pos:Int)+1)=false:=by simp;omega
 have htn:((σ.pos:Int)+1).toNat=σ.pos+1:=by omega
 have HB:=hd hB
 clear hB
 go_enter Tryz.func37,Tryz.ntmps37
 go_wp2
 go_quiet (fail)
 go_wp2
 go_quiet (fail)
 go_wp2_with fail
 refine(oneByte_any _ _ (by omega) (by omega)).mono ?_
 rintro e w2 ⟨a0,a1,a2,a3,a4,a5,a6,a7,rfl,hw8,hb2⟩
 have H8:Hid (W8 a0 a1 a2 a3 a4 a5 a6 a7 (addS noS s[σ.pos+1].toNat)):=hd (by rw[show s[σ.pos+1].toNat=93 by omega];simpa[htn]using hw8)
 clear hw8
 have hr2:=h.drewN.below hb2
 have HW2:=hd ((below_drewN R w _).trans (hb2.mono (Nat.le_of_lt (by have:=h.hR;have:=h.hb;show R<w.heap.size;omega))))
 clear hb2 c0 c1
 go_wp2_with fail
 refine(put_rd hr2 2 (by omega) hp HB.out.2.1 0 a0 a1 a2 a3 a4 a5 a6 a7 0 0 0 none 0 0 (itOne (addS noS s[σ.pos+1].toNat)) (ok_one H _ H8.out)).mono ?_
 rintro e w3 ⟨rfl,hr,hbw⟩
 have HR:=hd hr
 have HW:=hd hbw
 clear hr hbw hr2
 go_wp2
 go_ret
 exact⟨rfl,⟨H,HR.out⟩,HW2.out.trans HW.out⟩
theorem escape_put42{w:World}{base R:Nat}{s:ByteArray}{H:Fins}{σ:St}(h:Rd w base R s H σ)(hB:Bd σ)(hl:σ.pos+1<s.size)(hc:(s[σ.pos+1].toNat:Int)=42):
  Calls Tryz.prog 37 #[.pointer (some ⟨R,0,none⟩)] w fun e w'=>e= .returned (.int .i64 (((0,addIt σ (itOne (addS noS s[σ.pos+1].toNat)) 2):Nat×St)).1)/\(∃H',Rd w' base R s H' (((0,addIt σ (itOne (addS noS s[σ.pos+1].toNat)) 2):Nat×St)).2)/\Below R w w':=by
 have hp:=hB.1
 have c0:=h.c0
 have c1:=h.c1
 have w1':=wrapI ((σ.pos:Int)+1) (by omega) (by omega)
 have q0:(0:Int)<=(σ.pos:Int)+1:=by omega
 have q1:(σ.pos:Int)+1<(s.size:Int):=by omega
 have hlB:decide ((s.size:Int)<=(σ.pos:Int)+1)=false:=by simp;omega
 have htn:((σ.pos:Int)+1).toNat=σ.pos+1:=by omega
 have HB:=hd hB
 clear hB
 go_enter Tryz.func37,Tryz.ntmps37
 go_wp2
 go_quiet (fail)
 go_wp2
 go_quiet (fail)
 go_wp2_with fail
 refine(oneByte_any _ _ (by omega) (by omega)).mono ?_
 rintro e w2 ⟨a0,a1,a2,a3,a4,a5,a6,a7,rfl,hw8,hb2⟩
 have H8:Hid (W8 a0 a1 a2 a3 a4 a5 a6 a7 (addS noS s[σ.pos+1].toNat)):=hd (by rw[show s[σ.pos+1].toNat=42 by omega];simpa[htn]using hw8)
 clear hw8
 have hr2:=h.drewN.below hb2
 have HW2:=hd ((below_drewN R w _).trans (hb2.mono (Nat.le_of_lt (by have:=h.hR;have:=h.hb;show R<w.heap.size;omega))))
 clear hb2 c0 c1
 go_wp2_with fail
 refine(put_rd hr2 2 (by omega) hp HB.out.2.1 0 a0 a1 a2 a3 a4 a5 a6 a7 0 0 0 none 0 0 (itOne (addS noS s[σ.pos+1].toNat)) (ok_one H _ H8.out)).mono ?_
 rintro e w3 ⟨rfl,hr,hbw⟩
 have HR:=hd hr
 have HW:=hd hbw
 clear hr hbw hr2
 go_wp2
 go_ret
 exact⟨rfl,⟨H,HR.out⟩,HW2.out.trans HW.out⟩
theorem escape_put94{w:World}{base R:Nat}{s:ByteArray}{H:Fins}{σ:St}(h:Rd w base R s H σ)(hB:Bd σ)(hl:σ.pos+1<s.size)(hc:(s[σ.pos+1].toNat:Int)=94):
  Calls Tryz.prog 37 #[.pointer (some ⟨R,0,none⟩)] w fun e w'=>e= .returned (.int .i64 (((0,addIt σ (itOne (addS noS s[σ.pos+1].toNat)) 2):Nat×St)).1)/\(∃H',Rd w' base R s H' (((0,addIt σ (itOne (addS noS s[σ.pos+1].toNat)) 2):Nat×St)).2)/\Below R w w':=by
 have hp:=hB.1
 have c0:=h.c0
 have c1:=h.c1
 have w1':=wrapI ((σ.pos:Int)+1) (by omega) (by omega)
 have q0:(0:Int)<=(σ.pos:Int)+1:=by omega
 have q1:(σ.pos:Int)+1<(s.size:Int):=by omega
 have hlB:decide ((s.size:Int)<=(σ.pos:Int)+1)=false:=by simp;omega
 have htn:((σ.pos:Int)+1).toNat=σ.pos+1:=by omega
 have HB:=hd hB
 clear hB
 go_enter Tryz.func37,Tryz.ntmps37
 go_wp2
 go_quiet (fail)
 go_wp2
 go_quiet (fail)
 go_wp2_with fail
 refine(oneByte_any _ _ (by omega) (by omega)).mono ?_
 rintro e w2 ⟨a0,a1,a2,a3,a4,a5,a6,a7,rfl,hw8,hb2⟩
 have H8:Hid (W8 a0 a1 a2 a3 a4 a5 a6 a7 (addS noS s[σ.pos+1].toNat)):=hd (by rw[show s[σ.pos+1].toNat=94 by omega];simpa[htn]using hw8)
 clear hw8
 have hr2:=h.drewN.below hb2
 have HW2:=hd ((below_drewN R w _).trans (hb2.mono (Nat.le_of_lt (by have:=h.hR;have:=h.hb;show R<w.heap.size;omega))))
 clear hb2 c0 c1
 go_wp2_with fail
 refine(put_rd hr2 2 (by omega) hp HB.out.2.1 0 a0 a1 a2 a3 a4 a5 a6 a7 0 0 0 none 0 0 (itOne (addS noS s[σ.pos+1].toNat)) (ok_one H _ H8.out)).mono ?_
 rintro e w3 ⟨rfl,hr,hbw⟩
 have HR:=hd hr
 have HW:=hd hbw
 clear hr hbw hr2
 go_wp2
 go_ret
 exact⟨rfl,⟨H,HR.out⟩,HW2.out.trans HW.out⟩
theorem escape_put36{w:World}{base R:Nat}{s:ByteArray}{H:Fins}{σ:St}(h:Rd w base R s H σ)(hB:Bd σ)(hl:σ.pos+1<s.size)(hc:(s[σ.pos+1].toNat:Int)=36):
  Calls Tryz.prog 37 #[.pointer (some ⟨R,0,none⟩)] w fun e w'=>e= .returned (.int .i64 (((0,addIt σ (itOne (addS noS s[σ.pos+1].toNat)) 2):Nat×St)).1)/\(∃H',Rd w' base R s H' (((0,addIt σ (itOne (addS noS s[σ.pos+1].toNat)) 2):Nat×St)).2)/\Below R w w':=by
 have hp:=hB.1
 have c0:=h.c0
 have c1:=h.c1
 have w1':=wrapI ((σ.pos:Int)+1) (by omega) (by omega)
 have q0:(0:Int)<=(σ.pos:Int)+1:=by omega
 have q1:(σ.pos:Int)+1<(s.size:Int):=by omega
 have hlB:decide ((s.size:Int)<=(σ.pos:Int)+1)=false:=by simp;omega
 have htn:((σ.pos:Int)+1).toNat=σ.pos+1:=by omega
 have HB:=hd hB
 clear hB
 go_enter Tryz.func37,Tryz.ntmps37
 go_wp2
 go_quiet (fail)
 go_wp2
 go_quiet (fail)
 go_wp2_with fail
 refine(oneByte_any _ _ (by omega) (by omega)).mono ?_
 rintro e w2 ⟨a0,a1,a2,a3,a4,a5,a6,a7,rfl,hw8,hb2⟩
 have H8:Hid (W8 a0 a1 a2 a3 a4 a5 a6 a7 (addS noS s[σ.pos+1].toNat)):=hd (by rw[show s[σ.pos+1].toNat=36 by omega];simpa[htn]using hw8)
 clear hw8
 have hr2:=h.drewN.below hb2
 have HW2:=hd ((below_drewN R w _).trans (hb2.mono (Nat.le_of_lt (by have:=h.hR;have:=h.hb;show R<w.heap.size;omega))))
 clear hb2 c0 c1
 go_wp2_with fail
 refine(put_rd hr2 2 (by omega) hp HB.out.2.1 0 a0 a1 a2 a3 a4 a5 a6 a7 0 0 0 none 0 0 (itOne (addS noS s[σ.pos+1].toNat)) (ok_one H _ H8.out)).mono ?_
 rintro e w3 ⟨rfl,hr,hbw⟩
 have HR:=hd hr
 have HW:=hd hbw
 clear hr hbw hr2
 go_wp2
 go_ret
 exact⟨rfl,⟨H,HR.out⟩,HW2.out.trans HW.out⟩
theorem escape_put92{w:World}{base R:Nat}{s:ByteArray}{H:Fins}{σ:St}(h:Rd w base R s H σ)(hB:Bd σ)(hl:σ.pos+1<s.size)(hc:(s[σ.pos+1].toNat:Int)=92):
  Calls Tryz.prog 37 #[.pointer (some ⟨R,0,none⟩)] w fun e w'=>e= .returned (.int .i64 (((0,addIt σ (itOne (addS noS s[σ.pos+1].toNat)) 2):Nat×St)).1)/\(∃H',Rd w' base R s H' (((0,addIt σ (itOne (addS noS s[σ.pos+1].toNat)) 2):Nat×St)).2)/\Below R w w':=by
 have hp:=hB.1
 have c0:=h.c0
 have c1:=h.c1
 have w1':=wrapI ((σ.pos:Int)+1) (by omega) (by omega)
 have q0:(0:Int)<=(σ.pos:Int)+1:=by omega
 have q1:(σ.pos:Int)+1<(s.size:Int):=by omega
 have hlB:decide ((s.size:Int)<=(σ.pos:Int)+1)=false:=by simp;omega
 have htn:((σ.pos:Int)+1).toNat=σ.pos+1:=by omega
 have HB:=hd hB
 clear hB
 go_enter Tryz.func37,Tryz.ntmps37
 go_wp2
 go_quiet (fail)
 go_wp2
 go_quiet (fail)
 go_wp2_with fail
 refine(oneByte_any _ _ (by omega) (by omega)).mono ?_
 rintro e w2 ⟨a0,a1,a2,a3,a4,a5,a6,a7,rfl,hw8,hb2⟩
 have H8:Hid (W8 a0 a1 a2 a3 a4 a5 a6 a7 (addS noS s[σ.pos+1].toNat)):=hd (by rw[show s[σ.pos+1].toNat=92 by omega];simpa[htn]using hw8)
 clear hw8
 have hr2:=h.drewN.below hb2
 have HW2:=hd ((below_drewN R w _).trans (hb2.mono (Nat.le_of_lt (by have:=h.hR;have:=h.hb;show R<w.heap.size;omega))))
 clear hb2 c0 c1
 go_wp2_with fail
 refine(put_rd hr2 2 (by omega) hp HB.out.2.1 0 a0 a1 a2 a3 a4 a5 a6 a7 0 0 0 none 0 0 (itOne (addS noS s[σ.pos+1].toNat)) (ok_one H _ H8.out)).mono ?_
 rintro e w3 ⟨rfl,hr,hbw⟩
 have HR:=hd hr
 have HW:=hd hbw
 clear hr hbw hr2
 go_wp2
 go_ret
 exact⟨rfl,⟨H,HR.out⟩,HW2.out.trans HW.out⟩
theorem escape_bad{w:World}{base R:Nat}{s:ByteArray}{H:Fins}{σ:St}(h:Rd w base R s H σ)(hB:Bd σ)(hl:σ.pos+1<s.size)(n40:(s[σ.pos+1].toNat:Int)≠40)(n41:(s[σ.pos+1].toNat:Int)≠41)(n123:(s[σ.pos+1].toNat:Int)≠123)(n49:(s[σ.pos+1].toNat:Int)≠49)(n50:(s[σ.pos+1].toNat:Int)≠50)(n51:(s[σ.pos+1].toNat:Int)≠51)(n52:(s[σ.pos+1].toNat:Int)≠52)(n53:(s[σ.pos+1].toNat:Int)≠53)(n54:(s[σ.pos+1].toNat:Int)≠54)(n55:(s[σ.pos+1].toNat:Int)≠55)(n56:(s[σ.pos+1].toNat:Int)≠56)(n57:(s[σ.pos+1].toNat:Int)≠57)(n46:(s[σ.pos+1].toNat:Int)≠46)(n91:(s[σ.pos+1].toNat:Int)≠91)(n93:(s[σ.pos+1].toNat:Int)≠93)(n42:(s[σ.pos+1].toNat:Int)≠42)(n94:(s[σ.pos+1].toNat:Int)≠94)(n36:(s[σ.pos+1].toNat:Int)≠36)(n92:(s[σ.pos+1].toNat:Int)≠92):
  Calls Tryz.prog 37 #[.pointer (some ⟨R,0,none⟩)] w fun e w'=>e= .returned (.int .i64 (((3,σ):Nat×St)).1)/\(∃H',Rd w' base R s H' (((3,σ):Nat×St)).2)/\Below R w w':=by
 have m40:((s[σ.pos+1].toNat:Int)==40)=false:=by simpa using n40
 have m41:((s[σ.pos+1].toNat:Int)==41)=false:=by simpa using n41
 have m123:((s[σ.pos+1].toNat:Int)==123)=false:=by simpa using n123
 have m49:((s[σ.pos+1].toNat:Int)==49)=false:=by simpa using n49
 have m50:((s[σ.pos+1].toNat:Int)==50)=false:=by simpa using n50
 have m51:((s[σ.pos+1].toNat:Int)==51)=false:=by simpa using n51
 have m52:((s[σ.pos+1].toNat:Int)==52)=false:=by simpa using n52
 have m53:((s[σ.pos+1].toNat:Int)==53)=false:=by simpa using n53
 have m54:((s[σ.pos+1].toNat:Int)==54)=false:=by simpa using n54
 have m55:((s[σ.pos+1].toNat:Int)==55)=false:=by simpa using n55
 have m56:((s[σ.pos+1].toNat:Int)==56)=false:=by simpa using n56
 have m57:((s[σ.pos+1].toNat:Int)==57)=false:=by simpa using n57
 have m46:((s[σ.pos+1].toNat:Int)==46)=false:=by simpa using n46
 have m91:((s[σ.pos+1].toNat:Int)==91)=false:=by simpa using n91
 have m93:((s[σ.pos+1].toNat:Int)==93)=false:=by simpa using n93
 have m42:((s[σ.pos+1].toNat:Int)==42)=false:=by simpa using n42
 have m94:((s[σ.pos+1].toNat:Int)==94)=false:=by simpa using n94
 have m36:((s[σ.pos+1].toNat:Int)==36)=false:=by simpa using n36
 have m92:((s[σ.pos+1].toNat:Int)==92)=false:=by simpa using n92
 clear n40 n41 n123 n49 n50 n51 n52 n53 n54 n55 n56 n57 n46 n91 n93 n42 n94 n36 n92
 have hp:=hB.1
 have c0:=h.c0
 have c1:=h.c1
 have w1':=wrapI ((σ.pos:Int)+1) (by omega) (by omega)
 have q0:(0:Int)<=(σ.pos:Int)+1:=by omega
 have q1:(σ.pos:Int)+1<(s.size:Int):=by omega
 have hlB:decide ((s.size:Int)<=(σ.pos:Int)+1)=false:=by simp;omega
 have htn:((σ.pos:Int)+1).toNat=σ.pos+1:=by omega
 have HB:=hd hB
 clear hB
 go_enter Tryz.func37,Tryz.ntmps37
 go_wp2
 go_quiet (fail)
 go_wp2
 go_quiet (fail)
 go_wp2
 go_ret
 exact⟨rfl,⟨H,h.drewN⟩,below_drewN _ _ _⟩
end Go.Proofs.YtldiemjlpnachaaGreatDoor

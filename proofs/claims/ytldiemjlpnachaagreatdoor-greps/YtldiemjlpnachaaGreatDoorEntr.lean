import Derived.Test.YtldiemjlpnachaaGreatDoorPike
import Derived.Deep.LoopGhost
import Derived.Laws.MakeOwn
import Derived.Test.YtldiemjlpnachaaGreatDoorBks
set_option maxHeartbeats 3200000
set_option maxRecDepth 100000
namespace Go.Proofs.YtldiemjlpnachaaGreatDoor
open Go.RowKit
def WfS(n:Nat):Stp->Prop
 | .done=>True
 | .one _ m=>m<n
 | .beg m=>m<n
 | .fin m=>m<n
 | .fork m o=>m<n/\o<n
def WfC(D:List Stp):Prop:=∀(q:Nat) (st:Stp),D[q]?=some st->WfS D.length st
abbrev Γb(Γ:Cfg)(A LA:Nat):List Nat:= [Γ.S,Γ.SB,A,LA]
structure Apw(Γ:Cfg)(A LA:Nat):Prop where
 a:Apt Γ
 n1:A≠LA
 n2:Γ.S≠A
 n3:Γ.S≠LA
 n4:Γ.SB≠A
 n5:Γ.SB≠LA
 n6:Γ.P≠A
 n7:Γ.P≠LA
 n8:Γ.G≠A
 n9:Γ.G≠LA
def EnPost(Γ:Cfg)(A LA t i p:Nat)(s:Sx)(w w':World)(e:Ending):Prop:=
 e= .returned (.tuple #[])/\∃s',Ent Γ.ln.data.toList Γ.D t i p (fun _=>False) s s'/\Sh w' Γ t s'.sn s'.fd s'.a s'.b/\Ways w' A LA Γ.D.length s'.li/\Bl w w' (Γb Γ A LA)
def EnSaid(Γ:Cfg)(A LA t i n:Nat):Prop:=∀(w:World) (s:Sx) (p:Nat),s.sn.length<s.sn.count (t+1)+n->p<Γ.D.length->(∀(q v:Nat),s.sn[q]?=some v->v<=t+1)->s.li.length<=s.sn.count (t+1)->Sh w Γ t s.sn s.fd s.a s.b->Ways w A LA Γ.D.length s.li->
  Calls Tryz.prog 71 #[.pointer (some ⟨Γ.S,0,none⟩),.int .i64 p,.int .i64 i,.pointer (some ⟨A,0,none⟩)] w fun e w'=>EnPost Γ A LA t i p s w w' e
theorem Ent.weak'{l:List UInt8}{D:List Stp}{t i p:Nat}{P Q:Nat->Prop}{s s':Sx}(h:Ent l D t i p P s s')(hP:∀x,P x->vis t s' x\/Q x)(hQ:∀x,Q x->Rch l D p t x t):Ent l D t i p Q s s':=
 ⟨h.len,h.keep,h.mono,by rcases h.root with h1|h1;exact .inl h1;exact hP _ h1,fun q x h1 h2 h3=>by rcases h.shut q x h1 h2 h3 with h4|h4;exact .inl h4;exact hP _ h4,h.snd,hQ,h.li,h.cnt,h.fd⟩
theorem Ent.hi{l:List UInt8}{D:List Stp}{t i p:Nat}{P:Nat->Prop}{s s':Sx}(h:Ent l D t i p P s s')(hs:∀(q v:Nat),s.sn[q]?=some v->v<=t+1):∀(q v:Nat),s'.sn[q]?=some v->v<=t+1:=by
 intro q v hq
 rcases h.keep q with h1|h1
 ·unfold vis at h1;rw[hq]at h1;cases h1;exact Nat.le_refl _
 ·rw[h1]at hq;exact hs q v hq
theorem Ent.grow{l:List UInt8}{D:List Stp}{t i p:Nat}{P:Nat->Prop}{s s':Sx}(h:Ent l D t i p P s s'):s.li.length<=s'.li.length:=by
 obtain⟨X,e,_⟩:=h.li
 rw[e,List.length_append];omega
theorem eps_no{l:List UInt8}{D:List Stp}{t q:Nat}{st:Stp}(h:D[q]?=some st)(hs:match st with| .done=>True| .one _ _=>True| .beg _=>t≠0| .fin _=>t≠l.length| .fork _ _=>False):∀x,¬Eps l D t q x:=by
 intro x hx
 unfold Eps at hx
 rw[h]at hx
 cases st<;>simp at hs hx<;>first|exact hx.2|>fun e=>hs e|skip
theorem enter_step(Γ:Cfg)(A LA t i n:Nat)(hA:Apw Γ A LA)(hW:WfC Γ.D)(hD:Γ.D.length<=1000)(ht:t<=2000000000)(htl:t<=Γ.ln.size)(ih:EnSaid Γ A LA t i n):EnSaid Γ A LA t i (n+1):=by
 intro w s p hn hp hhi hli hS hL
 have Hih:=hd ih
 have Htl:=hd htl
 have HA:=hd hA
 have HW:=hd hW
 clear ih hA hW htl
 go_enter Tryz.func71,Tryz.ntmps71
 go_wp2
 go_loopg [1] (n+1) (fun k st wr=>∃(q:Nat) (s':Sx),st= .int .i64 q/\q<Γ.D.length/\Hid (Ent Γ.ln.data.toList Γ.D t i p (fun x=>x=q) s s')/\Sh wr Γ t s'.sn s'.fd s'.a s'.b/\Ways wr A LA Γ.D.length s'.li/\Hid (Bl w wr (Γb Γ A LA))/\Hid (∀(q v:Nat),s'.sn[q]?=some v->v<=t+1)/\s'.sn.length<s'.sn.count (t+1)+k/\s'.sn.length<s'.sn.count (t+1)+(n+1)/\s'.li.length<=s'.sn.count (t+1))
 case atStart=>exact⟨p,s,rfl,hp,hd (Ent.start _ _ _ _ _ _),hS,hL,hd (Bl.refl _ _),hd hhi,hn,hn,hli⟩
 case round=>
  clear hS hL hn hhi hli
  obtain⟨q,s',rfl,hq,HE,hS,hL,HB,Hhi,hn,hn1,hli⟩:=hrel
  have hql:q<s'.sn.length:=by rw[hS.snl];exact hq
  obtain⟨v,hv⟩:∃v,s'.sn[q]?=some v:=⟨s'.sn[q],List.getElem?_eq_getElem hql⟩
  have hvt:=Hhi.out q v hv
  obtain⟨x1,x2⟩:=hS.sn q v hv
  have s0:=hS.s0
  have s2:=hS.s2
  have s3:=hS.s3
  have q0:(0:Int)<=(q:Int):=by omega
  have q1:(q:Int)<(Γ.D.length:Int):=by omega
  by_cases hvis:t<v
  ·have hle:decide ((v:Int)<=(t:Int))=false:=by simp;omega
   go_wp2
   go_quiet (fail)
   go_wp2
   go_end0
   refine⟨rfl,s',?_,hS.drewN,hL.drewN,HB.out.drewN⟩
   refine HE.out.weak (fun x hx=> .inl ?_) (fun x hx=>hx.elim)
   subst hx
   unfold vis
   rw[hv]
   congr 1
   omega
  ·have hle:decide ((v:Int)<=(t:Int))=true:=by simp;omega
   have hle2:(v:Int)<=(t:Int):=by omega
   go_wp2
   go_quiet (fail)
   go_wp2
   go_region
   obtain⟨st,hst⟩:∃st,Γ.D[q]?=some st:=⟨Γ.D[q],List.getElem?_eq_getElem hq⟩
   have hnv:¬vis t s' q:=fun h=>by unfold vis at h;rw[hv]at h;cases h;omega
   have HM:=hd (HE.out.mark (fun x hx=>hx) rfl hql hnv hst)
   have hcm:=count_mark hql hnv
   have hcl:(s'.sn.set q (t+1)).count (t+1)<=(s'.sn.set q (t+1)).length:=List.count_le_length
   have hcm':(s'.sn.set q (t+1)).count (t+1)=s'.sn.count (t+1)+1:=hcm
   rw[hcm',List.length_set,hS.snl]at hcl
   have HBW:Hid (Bl w ((wr.drewN (nq+1)).setCell ⟨Γ.SB,q,none⟩ (.int .i64 ((t:Int)+1))) (Γb Γ A LA)):=hd (HB.out.drewN.set _ (by simp) _)
   have hS1:Sh ((wr.drewN (nq+1)).setCell ⟨Γ.SB,q,none⟩ (.int .i64 ((t:Int)+1))) Γ t (s'.sn.set q (t+1)) s'.fd s'.a s'.b:=by
    have:=(hS.drewN (n:=nq+1)).mark HA.out.a (q:=q) (u:=t+1) hql
    simpa using this
   have hL1:Ways ((wr.drewN (nq+1)).setCell ⟨Γ.SB,q,none⟩ (.int .i64 ((t:Int)+1))) A LA Γ.D.length s'.li:=(hL.drewN (n:=nq+1)).bl ((Bl.refl _ [Γ.SB]).set _ (by simp) _) (by simpa using Ne.symm HA.out.n4) (by simpa using Ne.symm HA.out.n5)
   have Hhi1:Hid (∀(x v:Nat),(s'.sn.set q (t+1))[x]?=some v->v<=t+1):=hd (fun x v hx=>by
    by_cases e:q=x
    ·subst e;rw[List.getElem?_set_self hql]at hx;cases hx;exact Nat.le_refl _
    ·rw[List.getElem?_set_ne e]at hx;exact Hhi.out x v hx)
   generalize (wr.drewN (nq+1)).setCell ⟨Γ.SB,q,none⟩ (.int .i64 ((t:Int)+1))=W at HBW hS1 hL1 ⊢
   have hsl:=hS.snl
   clear hS hL s0 s2 s3 x1 x2 HB Hhi hle hle2 hcm
   have s0:=hS1.s0
   have s1:=hS1.s1
   have s2:=hS1.s2
   have s4:=hS1.s4
   have s5:=hS1.s5
   have s6:=hS1.s6
   have f4:=hS1.f4
   have f5:=hS1.f5
   have f6:=hS1.f6
   have p0:=hS1.p0
   have hstp:=hS1.st q st hst
   have hwf:=HW.out q st hst
   cases st with
   |done=>
    have k0:W.cell? ⟨Γ.G,q*14,none⟩=some (.int .i64 0):=hstp
    go_wp2
    refine bodyPost_ret (v:= .tuple #[]) (by simp[results,Tryz.results71,go_sem]) rfl ?_
    refine⟨rfl,_,HM.out.weak (fun x hx=>(eps_no hst trivial x hx).elim) (fun x hx=>hx.elim),hS1.found HA.out.a,hL1.bl ((((Bl.refl _ [Γ.S]).set _ (by simp) _).set _ (by simp) _).set _ (by simp) _) (by simpa using Ne.symm HA.out.n2) (by simpa using Ne.symm HA.out.n3),((HBW.out.set _ (by simp) _).set _ (by simp) _).set _ (by simp) _⟩
   |one f m=>
    obtain⟨k0,k9,_⟩:=hstp
    have Hput:=hd (wput_any A LA Γ.D.length s'.li q i W hL1 HA.out.n1 (by omega) (by omega))
    go_wp2_with fail
    refine Hput.out.mono ?_
    rintro e w2 ⟨rfl,hL2,hB2⟩
    go_wp2
    refine bodyPost_ret (v:= .tuple #[]) (by simp[results,Tryz.results71,go_sem]) rfl ?_
    refine⟨rfl,_,HM.out.weak (fun x hx=>(eps_no hst trivial x hx).elim) (fun x hx=>hx.elim),hS1.bl hB2 (by simpa using⟨HA.out.n2,HA.out.n3⟩) (by simpa using⟨HA.out.n4,HA.out.n5⟩) (by simpa using⟨HA.out.n6,HA.out.n7⟩) (by simpa using⟨HA.out.n8,HA.out.n9⟩),hL2,HBW.out.trans (hB2.mono (by simp))⟩
   |beg m=>
    obtain⟨k0,k9⟩:=hstp
    by_cases h0:t=0
    ·subst h0
     go_wp2
     go_roundg (gk-1)
     case measure=>omega
     case rel=>exact⟨m,_,rfl,hwf,hd (HM.out.weak' (fun x hx=> .inr (by rcases hx with⟨h,_⟩|⟨h,_⟩|⟨o,h⟩|⟨o,h⟩<;>rw[hst]at h<;>cases h;rfl)) (fun x hx=>HM.out.pr x (.inl ⟨by rw[hx];exact hst,rfl⟩))),hS1,hL1,HBW,Hhi1,by show(s'.sn.set q (0+1)).length<(s'.sn.set q (0+1)).count (0+1)+(gk-1);rw[hcm',List.length_set];omega,by show(s'.sn.set q (0+1)).length<(s'.sn.set q (0+1)).count (0+1)+(n+1);rw[hcm',List.length_set];omega,by show s'.li.length<=(s'.sn.set q (0+1)).count (0+1);rw[hcm'];omega⟩
    ·have htp:(0:Int)<(t:Int):=by omega
     go_wp2
     refine bodyPost_ret (v:= .tuple #[]) (by simp[results,Tryz.results71,go_sem]) rfl ?_
     exact⟨rfl,_,HM.out.weak (fun x hx=>(eps_no hst h0 x hx).elim) (fun x hx=>hx.elim),hS1,hL1,HBW.out⟩
   |fin m=>
    obtain⟨k0,k9⟩:=hstp
    by_cases h0:t=Γ.ln.data.toList.length
    ·have htl:decide ((t:Int)<(Γ.ln.size:Int))=false:=by rw[len_data]at h0;simp;omega
     have h0':¬(t:Int)<(Γ.ln.size:Int):=by rw[len_data]at h0;omega
     have H0:=hd h0
     clear h0
     go_wp2
     go_quiet (fail)
     go_wp2
     go_roundg (gk-1)
     case measure=>omega
     case rel=>exact⟨m,_,rfl,hwf,hd (HM.out.weak' (fun x hx=> .inr (by rcases hx with⟨h,_⟩|⟨h,_⟩|⟨o,h⟩|⟨o,h⟩<;>rw[hst]at h<;>cases h;rfl)) (fun x hx=>HM.out.pr x (.inr (.inl ⟨by rw[hx];exact hst,H0.out⟩)))),hS1.drewN,hL1.drewN,hd HBW.out.drewN,Hhi1,by show(s'.sn.set q (t+1)).length<(s'.sn.set q (t+1)).count (t+1)+(gk-1);rw[hcm',List.length_set];omega,by show(s'.sn.set q (t+1)).length<(s'.sn.set q (t+1)).count (t+1)+(n+1);rw[hcm',List.length_set];omega,by show s'.li.length<=(s'.sn.set q (t+1)).count (t+1);rw[hcm'];omega⟩
    ·by_cases h1:(t:Int)<(Γ.ln.size:Int)
     ·have H0:=hd h0
      clear h0
      go_wp2
      go_quiet (fail)
      go_wp2
      refine bodyPost_ret (v:= .tuple #[]) (by simp[results,Tryz.results71,go_sem]) rfl ?_
      exact⟨rfl,_,HM.out.weak (fun x hx=>(eps_no hst H0.out x hx).elim) (fun x hx=>hx.elim),hS1.drewN,hL1.drewN,HBW.out.drewN⟩
     ·exfalso
      rw[len_data]at h0
      have:=Htl.out
      omega
   |fork m o=>
    obtain⟨k0,k9,k10⟩:=hstp
    have Hc:=hd (Hih.out W (put1 s' t i q (.fork m o)) o (by show(s'.sn.set q (t+1)).length<(s'.sn.set q (t+1)).count (t+1)+n;rw[hcm',List.length_set];omega) hwf.2 Hhi1.out (by show s'.li.length<=(s'.sn.set q (t+1)).count (t+1);rw[hcm'];omega) hS1 hL1)
    go_wp2_with fail
    refine Hc.out.mono ?_
    rintro e w2 ⟨rfl,s2',hE2,hS2,hL2,hB2⟩
    have k9':w2.cell? ⟨Γ.G,q*14+10,none⟩=some (.int .i64 m):=hB2.cell (by simpa using⟨HA.out.a.n4,HA.out.a.n5,HA.out.n8,HA.out.n9⟩) k9
    have HN:=hd ((HM.out.sub hE2 (HM.out.pr o (.inr (.inr (.inr ⟨_,hst⟩))))).weak' (Q:=fun x=>x=m) (fun x hx=>by
      rcases hx.1 with⟨h,_⟩|⟨h,_⟩|⟨o',h⟩|⟨o',h⟩<;>rw[hst]at h<;>cases h
      ·exact .inr rfl
      ·exact absurd rfl hx.2) (fun x hx=>HM.out.pr x (.inr (.inr (.inl ⟨o,by rw[hx];exact hst⟩)))))
    have hg:=hE2.grow
    have hc2:=hE2.cnt
    have hl2:=hE2.len
    have Hhi2:=hd (hE2.hi Hhi1.out)
    have e1:(put1 s' t i q (.fork m o)).sn=s'.sn.set q (t+1):=rfl
    have e2:(put1 s' t i q (.fork m o)).li=s'.li:=rfl
    rw[e1,e2]at hc2
    rw[e1,List.length_set]at hl2
    rw[e2]at hg
    rw[hcm']at hc2
    clear hE2 k9 k10 k0
    go_wp2
    go_roundg (gk-1)
    case measure=>omega
    case rel=>exact⟨m,s2',rfl,hwf.1,HN,hS2,hL2,hd (HBW.out.trans hB2),Hhi2,by omega,by omega,by omega⟩
end Go.Proofs.YtldiemjlpnachaaGreatDoor
namespace Go.Proofs.YtldiemjlpnachaaGreatDoor
open Go.RowKit
theorem enter_all(Γ:Cfg)(A LA t i:Nat)(hA:Apw Γ A LA)(hW:WfC Γ.D)(hD:Γ.D.length<=1000)(ht:t<=2000000000)(htl:t<=Γ.ln.size):∀n,EnSaid Γ A LA t i n
 |0=>fun w s p hn=>by
  have:s.sn.count (t+1)<=s.sn.length:=List.count_le_length
  omega
 |n+1=>enter_step Γ A LA t i n hA hW hD ht htl (enter_all Γ A LA t i hA hW hD ht htl n)
theorem enter_any(Γ:Cfg)(A LA t i:Nat)(hA:Apw Γ A LA)(hW:WfC Γ.D)(hD:Γ.D.length<=1000)(ht:t<=2000000000)(htl:t<=Γ.ln.size)(w:World)(s:Sx)(p:Nat)(hp:p<Γ.D.length)(hhi:∀(q v:Nat),s.sn[q]?=some v->v<=t+1)(hli:s.li.length<=s.sn.count (t+1))(hS:Sh w Γ t s.sn s.fd s.a s.b)(hL:Ways w A LA Γ.D.length s.li):
  Calls Tryz.prog 71 #[.pointer (some ⟨Γ.S,0,none⟩),.int .i64 p,.int .i64 i,.pointer (some ⟨A,0,none⟩)] w fun e w'=>EnPost Γ A LA t i p s w w' e:=
 enter_all Γ A LA t i hA hW hD ht htl (s.sn.length+1) w s p (by omega) hp hhi hli hS hL
def PaPost(Γ:Cfg)(A LA B LB f0 t:Nat)(L:List (Nat×Nat))(w w':World)(e:Ending):Prop:=
 e= .returned (.tuple #[])/\∃s:Sx,Plc Γ.ln.data.toList Γ.D Γ.e f0 (t+1) s.li s.fd s.a s.b/\(∀(q v:Nat),s.sn[q]?=some v->v<=t+2)/\s.li.length<=Γ.D.length/\Sh w' Γ (t+1) s.sn s.fd s.a s.b/\Ways w' B LB Γ.D.length s.li/\Ways w' A LA Γ.D.length L/\Bl w w' (Γb Γ B LB)
theorem pass_any(Γ:Cfg)(A LA B LB f0 t:Nat)(hA:Apw Γ A LA)(hB:Apw Γ B LB)(hAB:A≠B/\A≠LB/\LA≠B/\LA≠LB)(hW:WfC Γ.D)(hD:Γ.D.length<=1000)(ht:t<Γ.ln.size)(hlt:Γ.ln.size<=1000000000)(he:Γ.e<Γ.D.length)(h0:Γ.D[0]?=some .done)(hu:∀q,Γ.D[q]?=some .done->q=0)(hf0:f0<=t)
  (L X:List (Nat×Nat))(fd:Bool)(a b:Nat)(sn:List Nat)(w:World)(hP:Plc Γ.ln.data.toList Γ.D Γ.e f0 t L fd a b)(hLc:L.length<=Γ.D.length)(hhi:∀(q v:Nat),sn[q]?=some v->v<=t+1)(hS:Sh w Γ t sn fd a b)(hLA:Ways w A LA Γ.D.length L)(hLB:Ways w B LB Γ.D.length X):
  Calls Tryz.prog 72 #[.pointer (some ⟨Γ.S,0,none⟩),.int .u8 (ch Γ.ln.data.toList t),.pointer (some ⟨A,0,none⟩),.pointer (some ⟨B,0,none⟩)] w fun e w'=>PaPost Γ A LA B LB f0 t L w w' e:=by
 have s2:=hS.s2
 have f2:=hS.f2
 have b1:=hLB.a1
 have g1:=hLB.f1
 have HA:=hd hA
 have HB:=hd hB
 have HAB:=hd hAB
 have HW:=hd hW
 have HP:=hd hP
 have H0:=hd h0
 have Hu:=hd hu
 have Hhi:=hd hhi
 have HS:=hd hS
 have HLA:=hd hLA
 have HLB:=hd hLB
 clear hA hB hAB hW hP h0 hu hhi hS hLA hLB
 go_enter Tryz.func72,Tryz.ntmps72
 have hbn:B≠Γ.S:=Ne.symm HB.out.n2
 go_wp2
 have HS1:Hid (Sh ((w.setCell ⟨Γ.S,2,none⟩ (.int .i64 ((t:Int)+1))).setCell ⟨B,1,none⟩ (.int .i64 0)) Γ (t+1) sn fd a b):=by
  have:=HS.out.next (u:=t+1) HB.out.a
  have:=this.bl ((Bl.refl _ [B]).set ⟨B,1,none⟩ (by simp) (.int .i64 0)) (by simpa using HB.out.n2) (by simpa using HB.out.n4) (by simpa using HB.out.n6) (by simpa using HB.out.n8)
  exact hd (by simpa using this)
 have HL1:Hid (Ways ((w.setCell ⟨Γ.S,2,none⟩ (.int .i64 ((t:Int)+1))).setCell ⟨B,1,none⟩ (.int .i64 0)) B LB Γ.D.length []):=
  hd ((HLB.out.bl ((Bl.refl _ [Γ.S]).set ⟨Γ.S,2,none⟩ (by simp) _) (by simpa using Ne.symm HB.out.n2) (by simpa using Ne.symm HB.out.n3)).clear HB.out.n1)
 have HM1:Hid (Ways ((w.setCell ⟨Γ.S,2,none⟩ (.int .i64 ((t:Int)+1))).setCell ⟨B,1,none⟩ (.int .i64 0)) A LA Γ.D.length L):=
  hd (HLA.out.bl (((Bl.refl _ [Γ.S,B]).set ⟨Γ.S,2,none⟩ (by simp) _).set ⟨B,1,none⟩ (by simp) _) (by simpa using⟨Ne.symm HA.out.n2,HAB.out.1⟩) (by simpa using⟨Ne.symm HA.out.n3,HAB.out.2.2.1⟩))
 have HBl:Hid (Bl w ((w.setCell ⟨Γ.S,2,none⟩ (.int .i64 ((t:Int)+1))).setCell ⟨B,1,none⟩ (.int .i64 0)) (Γb Γ B LB)):=hd (((Bl.refl _ _).set _ (by simp) _).set _ (by simp) _)
 generalize (w.setCell ⟨Γ.S,2,none⟩ (.int .i64 ((t:Int)+1))).setCell ⟨B,1,none⟩ (.int .i64 0)=W0 at HS1 HL1 HM1 HBl ⊢
 clear HS HLA HLB s2 f2 b1 g1
 have hset:∀x∈Γb Γ B LB,True:=fun _ _=>trivial
 clear hset
 go_loopw [8] (fun iv wr=>∃(k:Nat) (s:Sx),iv= .int .i64 k/\k<=L.length/\Hid (Mid Γ.ln.data.toList Γ.D Γ.e f0 t L fd a b k s)/\Sh wr Γ (t+1) s.sn s.fd s.a s.b/\Ways wr B LB Γ.D.length s.li/\Ways wr A LA Γ.D.length L/\Hid (Bl w wr (Γb Γ B LB))) (fun iv _=>(L.length-(intOf iv).toNat))
 case atStart=>exact⟨0,⟨sn,[],fd,a,b⟩,rfl,Nat.zero_le _,hd (Mid.start Hhi.out rfl rfl rfl rfl),HS1.out,HL1.out,HM1.out,HBl⟩
 case round=>
  obtain⟨k,s,rfl,hk,HMi,hS,hLB,hLA,HBr⟩:=hrel
  have a0:=hLA.a0
  have a1:=hLA.a1
  have s0:=hS.s0
  have s4:=hS.s4
  have s5:=hS.s5
  have p0:=hS.p0
  by_cases hlt2:k<L.length
  ·obtain⟨x,hx⟩:∃x,L[k]?=some x:=⟨L[k],List.getElem?_eq_getElem hlt2⟩
   obtain⟨l0,l1⟩:=hLA.el k x hx
   have hxs:=HP.out.snd x (List.mem_of_getElem? hx)
   obtain⟨f,m,hst⟩:=hxs.2.2.2
   have hksz:k<Γ.D.length:=by omega
   have k0:(0:Int)<=(k:Int):=by omega
   have k1:(k:Int)<(L.length:Int):=by omega
   have k2:(k:Int)<(Γ.D.length:Int):=by omega
   have hlA:=World.block_lt_of_cell? wr _ a0
   have hlS:=World.block_lt_of_cell? wr _ s0
   go_wp2
   have hS1:=hS.bl ((Bl.refl wr []).alloc (.cells #[.int .i64 x.1,.int .i64 x.2] 186)) (by simp) (by simp) (by simp) (by simp)
   have hLB1:=hLB.alloc (.cells #[.int .i64 x.1,.int .i64 x.2] 186)
   have hLA1:=hLA.alloc (.cells #[.int .i64 x.1,.int .i64 x.2] 186)
   have HBr1:=hd (HBr.out.alloc (.cells #[.int .i64 x.1,.int .i64 x.2] 186))
   have hT:(wr.alloc (.cells #[.int .i64 x.1,.int .i64 x.2] 186)).cell? ⟨wr.heap.size,0,none⟩=some (.int .i64 x.1)/\(wr.alloc (.cells #[.int .i64 x.1,.int .i64 x.2] 186)).cell? ⟨wr.heap.size,1,none⟩=some (.int .i64 x.2):=⟨by simp,by simp⟩
   have hTn:wr.heap.size ∉ Γb Γ B LB:=by
    have e1:=World.block_lt_of_cell? wr _ hS.s0
    have e2:=World.block_lt_of_cell? wr _ hLB.a0
    have e3:=World.block_lt_of_cell? wr _ (hS.sn 0 _ (List.getElem?_eq_getElem (show 0<s.sn.length by rw[hS.snl];omega))).1
    obtain⟨u,hu⟩:=(hLB.room 0 (by omega)).1
    have e4:=World.block_lt_of_cell? wr _ hu
    simp only at e1 e2 e3 e4
    simp
    omega
   generalize wr.alloc (.cells #[.int .i64 x.1,.int .i64 x.2] 186)=W at hS1 hLB1 hLA1 HBr1 hT ⊢
   generalize wr.heap.size=T at hT hTn ⊢
   obtain⟨t0,t1⟩:=hT
   clear hS hLB hLA HBr a0 a1 s0 s4 s5 p0 l0 l1 hlA hlS
   have s0:=hS1.s0
   have s4:=hS1.s4
   have s5:=hS1.s5
   have p0:=hS1.p0
   obtain⟨st0,st9,hset⟩:=hS1.st x.1 _ hst
   have hx1:x.1<Γ.D.length:=(List.getElem?_eq_some_iff.1 hst).1
   have x0:(0:Int)<=(x.1:Int):=by omega
   have x1:(x.1:Int)<(Γ.D.length:Int):=by omega
   by_cases hpr:s.fd=true/\s.a<x.2
   ·obtain⟨hf,hlt3⟩:=hpr
    have hlt4:(s.a:Int)<(x.2:Int):=by omega
    rw[hf]at s4
    go_quiet (fail)
    go_wp2
    refine bodyPost_ret (v:= .tuple #[]) (by simp[results,Tryz.results72,go_sem]) rfl ?_
    refine⟨rfl,s,HMi.out.stop HP.out hf (fun y hy=>?_),HMi.out.hi,?_,hS1.drewN,hLB1.drewN,hLA1.drewN,HBr1.out.drewN⟩
    ·rw[drop_mem hx]at hy
     rcases List.mem_cons.1 hy with rfl|hy
     ·exact hlt3
     ·have hp:=HP.out.srt
      rw[<-List.take_append_drop k L,drop_mem hx]at hp
      have:=(List.pairwise_cons.1 (List.pairwise_append.1 hp).2.1).1 y hy
      omega
    ·have h1:=HMi.out.cnt
     have h2:s.sn.count (t+2)<=s.sn.length:=List.count_le_length
     rw[hS1.snl]at h2
     omega
   ·have Hpr:=hd hpr
    cases hfd:s.fd
    ·rw[hfd]at s4
     clear hpr
     go_quiet (fail)
     revert nq
     intro nqa
     go_wp2
     go_quiet (fail)
     go_wp2_with fail
     have hS2:=hS1.drewN (n:=nqa+nq)
     have hLB2:=hLB1.drewN (n:=nqa+nq)
     have hLA2:=hLA1.drewN (n:=nqa+nq)
     have HBr2:=hd (HBr1.out.drewN (n:=nqa+nq))
     have t0':(W.drewN (nqa+nq)).cell? ⟨T,0,none⟩=some (.int .i64 x.1):=t0
     have t1':(W.drewN (nqa+nq)).cell? ⟨T,1,none⟩=some (.int .i64 x.2):=t1
     have hset':SetIs (W.drewN (nqa+nq)) Γ.G (x.1*14+1) f:=hset
     have st9':(W.drewN (nqa+nq)).cell? ⟨Γ.G,x.1*14+10,none⟩=some (.int .i64 m):=st9
     skip
     generalize W.drewN (nqa+nq)=W2 at hS2 hLB2 hLA2 HBr2 t0' t1' hset' st9' ⊢
     clear hS1 hLB1 hLA1 HBr1 t0 t1 hset st0 st9 s0 s4 s5 p0
     have Hhas:=hd (has_any Γ.G (x.1*14+1) (ch Γ.ln.data.toList t) f W2 (ch_lt _ _) hset')
     cases hf:f (ch Γ.ln.data.toList t)
     ·rw[hf]at Hhas
      refine Hhas.out.mono ?_
      rintro e w3 ⟨rfl,rfl⟩
      go_wp2
      go_roundw
      case rel=>exact⟨k+1,s,by go_num,by omega,hd (HMi.out.skip hx hst hf),hS2,hLB2,hLA2,HBr2⟩
      case measure=>simp[intOf];omega
     ·rw[hf]at Hhas
      refine Hhas.out.mono ?_
      rintro e w3 ⟨rfl,rfl⟩
      have Hent:=hd (fun W3 (h1:Sh W3 Γ (t+1) s.sn s.fd s.a s.b) (h2:Ways W3 B LB Γ.D.length s.li)=>enter_any Γ B LB (t+1) x.2 HB.out HW.out hD (by omega) (by omega) W3 s m (HW.out x.1 _ hst) HMi.out.hi HMi.out.cnt h1 h2)
      have Hgo:=hd (fun s' (h:Ent Γ.ln.data.toList Γ.D (t+1) x.2 m (fun _=>False) s s')=>HMi.out.go HP.out hx hst hf (by rw[len_data];exact ht) Hu.out H0.out Hpr.out h)
      go_wp2
      go_region_with ((go_at_call 71;refine(Hent.out _ (by exact hS2.drew) (by exact hLB2.drew)).mono ?_;rintro e w4 ⟨rfl,s4',hE4,hS4,hLB4,hB4⟩))
      all_goals
       have hMi4:=hd (Hgo.out s4' hE4)
       have hLA4:=hLA2.drew.bl hB4 (by simpa using⟨Ne.symm HA.out.n2,Ne.symm HA.out.n4,HAB.out.1,HAB.out.2.1⟩) (by simpa using⟨Ne.symm HA.out.n3,Ne.symm HA.out.n5,HAB.out.2.2.1,HAB.out.2.2.2⟩)
       have HB4:=hd (HBr2.out.drew.trans hB4)
       clear hE4 hB4
       go_wp2
       go_roundw
       case rel=>exact⟨k+1,s4',by go_num,by omega,hMi4,hS4,hLB4,hLA4,HB4⟩
       case measure=>simp[intOf];omega
    ·have hna:¬(s.a:Int)<(x.2:Int):=fun h=>Hpr.out ⟨hfd,by omega⟩
     have hnd:decide ((s.a:Int)<(x.2:Int))=false:=by simp;omega
     rw[hfd]at s4
     clear hpr
     go_quiet (fail)
     revert nq
     intro nqa
     go_wp2
     go_quiet (fail)
     go_wp2_with fail
     have hS2:=hS1.drewN (n:=nqa+nq)
     have hLB2:=hLB1.drewN (n:=nqa+nq)
     have hLA2:=hLA1.drewN (n:=nqa+nq)
     have HBr2:=hd (HBr1.out.drewN (n:=nqa+nq))
     have t0':(W.drewN (nqa+nq)).cell? ⟨T,0,none⟩=some (.int .i64 x.1):=t0
     have t1':(W.drewN (nqa+nq)).cell? ⟨T,1,none⟩=some (.int .i64 x.2):=t1
     have hset':SetIs (W.drewN (nqa+nq)) Γ.G (x.1*14+1) f:=hset
     have st9':(W.drewN (nqa+nq)).cell? ⟨Γ.G,x.1*14+10,none⟩=some (.int .i64 m):=st9
     skip
     generalize W.drewN (nqa+nq)=W2 at hS2 hLB2 hLA2 HBr2 t0' t1' hset' st9' ⊢
     clear hS1 hLB1 hLA1 HBr1 t0 t1 hset st0 st9 s0 s4 s5 p0
     have Hhas:=hd (has_any Γ.G (x.1*14+1) (ch Γ.ln.data.toList t) f W2 (ch_lt _ _) hset')
     cases hf:f (ch Γ.ln.data.toList t)
     ·rw[hf]at Hhas
      refine Hhas.out.mono ?_
      rintro e w3 ⟨rfl,rfl⟩
      go_wp2
      go_roundw
      case rel=>exact⟨k+1,s,by go_num,by omega,hd (HMi.out.skip hx hst hf),hS2,hLB2,hLA2,HBr2⟩
      case measure=>simp[intOf];omega
     ·rw[hf]at Hhas
      refine Hhas.out.mono ?_
      rintro e w3 ⟨rfl,rfl⟩
      have Hent:=hd (fun W3 (h1:Sh W3 Γ (t+1) s.sn s.fd s.a s.b) (h2:Ways W3 B LB Γ.D.length s.li)=>enter_any Γ B LB (t+1) x.2 HB.out HW.out hD (by omega) (by omega) W3 s m (HW.out x.1 _ hst) HMi.out.hi HMi.out.cnt h1 h2)
      have Hgo:=hd (fun s' (h:Ent Γ.ln.data.toList Γ.D (t+1) x.2 m (fun _=>False) s s')=>HMi.out.go HP.out hx hst hf (by rw[len_data];exact ht) Hu.out H0.out Hpr.out h)
      go_wp2
      go_region_with ((go_at_call 71;refine(Hent.out _ (by exact hS2.drew) (by exact hLB2.drew)).mono ?_;rintro e w4 ⟨rfl,s4',hE4,hS4,hLB4,hB4⟩))
      all_goals
       have hMi4:=hd (Hgo.out s4' hE4)
       have hLA4:=hLA2.drew.bl hB4 (by simpa using⟨Ne.symm HA.out.n2,Ne.symm HA.out.n4,HAB.out.1,HAB.out.2.1⟩) (by simpa using⟨Ne.symm HA.out.n3,Ne.symm HA.out.n5,HAB.out.2.2.1,HAB.out.2.2.2⟩)
       have HB4:=hd (HBr2.out.drew.trans hB4)
       clear hE4 hB4
       go_wp2
       go_roundw
       case rel=>exact⟨k+1,s4',by go_num,by omega,hMi4,hS4,hLB4,hLA4,HB4⟩
       case measure=>simp[intOf];omega
  ·have hke:k=L.length:=by omega
   subst hke
   cases hf:s.fd
   ·rw[hf]at s4
    have s2:=hS.s2
    have p1:=hS.p1
    have Hent:=hd (fun W3 (h1:Sh W3 Γ (t+1) s.sn s.fd s.a s.b) (h2:Ways W3 B LB Γ.D.length s.li)=>enter_any Γ B LB (t+1) (t+1) HB.out HW.out hD (by omega) (by omega) W3 s Γ.e he HMi.out.hi HMi.out.cnt h1 h2)
    have Hgo:=hd (fun s' (h:Ent Γ.ln.data.toList Γ.D (t+1) (t+1) Γ.e (fun _=>False) s s')=>HMi.out.more HP.out hf (by omega) Hu.out H0.out h)
    go_wp2
    go_region_with ((go_at_call 71;refine(Hent.out _ (by exact hS.drew) (by exact hLB.drew)).mono ?_;rintro e w4 ⟨rfl,s4',hE4,hS4,hLB4,hB4⟩))
    all_goals
     obtain⟨hP4,hh4,hc4⟩:=Hgo.out s4' hE4
     have hLA4:=hLA.drew.bl hB4 (by simpa using⟨Ne.symm HA.out.n2,Ne.symm HA.out.n4,HAB.out.1,HAB.out.2.1⟩) (by simpa using⟨Ne.symm HA.out.n3,Ne.symm HA.out.n5,HAB.out.2.2.1,HAB.out.2.2.2⟩)
     have HB4:=hd (HBr.out.drew.trans hB4)
     have HF:Hid (PaPost Γ A LA B LB f0 t L w w4 (.returned (.tuple #[]))):=hd ⟨rfl,s4',hP4,hh4,by
      have h2:s4'.sn.count (t+2)<=s4'.sn.length:=List.count_le_length
      rw[hS4.snl]at h2
      omega,hS4,hLB4,hLA4,HB4.out⟩
     clear hE4 hB4 hP4 hh4 hc4 hS4 hLB4 hLA4
     go_wp2
     go_end0
     exact HF.out
   ·rw[hf]at s4
    go_wp2
    go_end0
    refine⟨rfl,s,HMi.out.stop HP.out hf (fun y hy=>by rw[List.drop_length]at hy;simp at hy),HMi.out.hi,?_,hS,hLB,hLA,HBr.out⟩
    have h1:=HMi.out.cnt
    have h2:s.sn.count (t+2)<=s.sn.length:=List.count_le_length
    rw[hS.snl]at h2
    omega
end Go.Proofs.YtldiemjlpnachaaGreatDoor
namespace Go.Proofs.YtldiemjlpnachaaGreatDoor
open Go.RowKit
def FindPost(w w':World)(l:List UInt8)(M:Nat->Nat->Prop)(from_:Int)(e:Ending):Prop:=
 Below w.heap.size w w'/\∃(fd:Bool) (a b:Nat),e= .returned (.tuple #[.int .i64 a,.int .i64 b,.bool fd])/\((0<=from_/\from_<=l.length)->Best l.length M from_.toNat fd a b)/\(¬(0<=from_/\from_<=l.length)->fd=false/\a=0/\b=0)
theorem info_way:(Tryz.prog.info? 186).map (fun i=>(i.zero,i.size,i.bytes))=some (some (.agg #[.int .i64 0,.int .i64 0]),2,16):=by kernel_rfl
def mkI(n:Nat):Array Value:=madeCells (Value.int .i64 0).cells (n*1)
def mkW(n:Nat):Array Value:=madeCells (Value.agg #[.int .i64 0,.int .i64 0]).cells (n*2)
theorem mkI_get{n i:Nat}(h:i<n):(mkI n)[i]?=some (.int .i64 0):=by
 unfold mkI madeCells
 rw[Array.getElem?_map,Array.getElem?_range]
 simp[h,Value.cells,Nat.mod_one]
theorem mkW_get{n i:Nat}(h:i<n*2):(mkW n)[i]?=some (.int .i64 0):=by
 unfold mkW madeCells
 rw[Array.getElem?_map,Array.getElem?_range]
 have hc:(Value.agg #[.int .i64 0,.int .i64 0]).cells= #[Value.int .i64 0,.int .i64 0]:=by rfl
 rw[hc,if_pos h]
 rcases Nat.mod_two_eq_zero_or_one i with e|e<;>simp[e]
theorem mk_ints(n:Nat)(hn:n<=1000)(w:World):(Instr.makeSlice 48 (.int .i64 n) (.int .i64 n)).run Tryz.prog w= .ok (.slice (some ⟨w.heap.size,0,none⟩) n n) (w.alloc (.cells (mkI n) 3)):=by
 obtain⟨i0,hi0,hz0,hz1,hz2⟩:=info_parts info_int
 have:=run_make (P:=Tryz.prog) w 48 3 i0 _ Tryz.underlying48 hi0 hz0 .i64 .i64 n n (by omega) (Int.le_refl _) (by rw[hz2];omega) (by omega)
 rw[hz1,Int.toNat_natCast]at this
 exact this
theorem mk_ways(n:Nat)(hn:n<=1000)(w:World):(Instr.makeSlice 148 (.int .i64 n) (.int .i64 n)).run Tryz.prog w= .ok (.slice (some ⟨w.heap.size,0,none⟩) n n) (w.alloc (.cells (mkW n) 186)):=by
 obtain⟨i0,hi0,hz0,hz1,hz2⟩:=info_parts info_way
 have:=run_make (P:=Tryz.prog) w 148 186 i0 _ Tryz.underlying148 hi0 hz0 .i64 .i64 n n (by omega) (Int.le_refl _) (by rw[hz2];omega) (by omega)
 rw[hz1,Int.toNat_natCast]at this
 exact this
theorem find_out(P o:Nat)(w:World)(s:ByteArray)(fr:Int)(ra:Option Addr)(rn rc:Nat)(p0:w.cell? ⟨P,o,none⟩=some (.slice ra rn rc))(p2:w.cell? ⟨P,o+2,none⟩=some (.int .i64 0))(hf:¬(0<=fr/\fr<=s.size)):
  Calls Tryz.prog 47 #[.pointer (some ⟨P,o,none⟩),.string s,.int .i64 fr] w fun e w'=>e= .returned (.tuple #[.int .i64 0,.int .i64 0,.bool false])/\Below w.heap.size w w':=by
 by_cases h1:fr<0
 ·go_enter Tryz.func47,Tryz.ntmps47
  go_wp2
  go_ret3
  exact⟨rfl,Below.refl _ _⟩
 ·have h2:(s.size:Int)<fr:=by omega
  go_enter Tryz.func47,Tryz.ntmps47
  go_wp2
  go_ret3
  exact⟨rfl,Below.refl _ _⟩
theorem below_drN{N n:Nat}{w w':World}(h:Below N w w'):Below N w (w'.drewN n):=⟨h.os,h.tape,h.output,h.size,h.block⟩
theorem six_new(w:World)(o0 o1 o2 o3 o4 o5:Obj):let W:=(((((w.alloc o0).alloc o1).alloc o2).alloc o3).alloc o4).alloc o5
  W.heap[w.heap.size]?=some o0/\W.heap[w.heap.size+1]?=some o1/\W.heap[w.heap.size+2]?=some o2/\W.heap[w.heap.size+3]?=some o3/\W.heap[w.heap.size+4]?=some o4/\W.heap[w.heap.size+5]?=some o5/\Below w.heap.size w W/\W.heap.size=w.heap.size+6:=by
 have hh:∀(U:World) (o:Obj) (k:Nat),k<U.heap.size->(U.alloc o).heap[k]?=U.heap[k]?:=fun U o k hk=>Below.heap_alloc _ _ _ hk
 refine⟨?_,?_,?_,?_,?_,?_,?_,by simp⟩
 ·rw[hh _ _ _ (by simp;omega),hh _ _ _ (by simp;omega),hh _ _ _ (by simp;omega),hh _ _ _ (by simp;omega),hh _ _ _ (by simp)];exact heap_alloc_new _ _
 ·rw[hh _ _ _ (by simp),hh _ _ _ (by simp),hh _ _ _ (by simp),hh _ _ _ (by simp)]
  have:=heap_alloc_new (w.alloc o0) o1
  simpa using this
 ·rw[hh _ _ _ (by simp),hh _ _ _ (by simp),hh _ _ _ (by simp)]
  have:=heap_alloc_new ((w.alloc o0).alloc o1) o2
  simpa using this
 ·rw[hh _ _ _ (by simp),hh _ _ _ (by simp)]
  have:=heap_alloc_new (((w.alloc o0).alloc o1).alloc o2) o3
  simpa using this
 ·rw[hh _ _ _ (by simp)]
  have:=heap_alloc_new ((((w.alloc o0).alloc o1).alloc o2).alloc o3) o4
  simpa using this
 ·have:=heap_alloc_new (((((w.alloc o0).alloc o1).alloc o2).alloc o3).alloc o4) o5
  simpa using this
 ·exact((((((Below.refl _ _).alloc (Nat.le_refl _) _).alloc (by simp) _).alloc (by simp;omega) _).alloc (by simp;omega) _).alloc (by simp;omega) _).alloc (by simp;omega) _
theorem cell_row{w:World}{g i:Nat}{arr:Array Value}{t:TypeId}(h:w.heap[g]?=some (.cells arr t)):w.cell? ⟨g,i,none⟩=arr[i]?:=cell_of_row w g i arr t (0,0) h
theorem frozen_row{w:World}{g i:Nat}{arr:Array Value}{t:TypeId}(h:w.heap[g]?=some (.cells arr t)):w.frozen? ⟨g,i,none⟩=false:=by simp[World.frozen?,h]
theorem StepAt.below{w w':World}{G q N:Nat}{st:Stp}(h:StepAt w G q st)(k:Below N w w')(hG:G<N):StepAt w' G q st:=by
 have c:∀i v,w.cell? ⟨G,i,none⟩=some v->w'.cell? ⟨G,i,none⟩=some v:=fun i v hv=>(k.cell (by exact hG)).trans hv
 cases st with
 |done=>exact c _ _ h
 |one f n=>exact⟨c _ _ h.1,c _ _ h.2.1,fun i hi=>by obtain⟨z,hz,hw⟩:=h.2.2 i hi;exact⟨z,c _ _ hz,hw⟩⟩
 |beg n=>exact⟨c _ _ h.1,c _ _ h.2⟩
 |fin n=>exact⟨c _ _ h.1,c _ _ h.2⟩
 |fork n o=>exact⟨c _ _ h.1,c _ _ h.2.1,c _ _ h.2.2⟩
structure Beg(w W:World)(P o G cap ee:Nat)(D:List Stp)(s:ByteArray)(fr:Nat):Prop where
 sh:Sh W ⟨w.heap.size+1,w.heap.size,P,o,G,cap,ee,s,D⟩ fr (List.replicate D.length 0) false 0 0
 wa:Ways W (w.heap.size+3) (w.heap.size+2) D.length []
 wb:Ways W (w.heap.size+5) (w.heap.size+4) D.length []
 bl:Below w.heap.size w W
 sz:W.heap.size=w.heap.size+6
theorem find_beg{P o G cap ee:Nat}{D:List Stp}{w:World}{s:ByteArray}{fr:Nat}(p0:w.cell? ⟨P,o,none⟩=some (.slice (some ⟨G,0,none⟩) D.length cap))(p1:w.cell? ⟨P,o+1,none⟩=some (.int .i64 ee))(hst:∀(q:Nat) (st:Stp),D[q]?=some st->StepAt w G q st)(hG:G<w.heap.size):
  Beg w ((((((w.alloc (.cells (mkI D.length) 3)).alloc (.cells #[.pointer (some ⟨P,o,none⟩),.string s,.int .i64 fr,.slice (some ⟨w.heap.size,0,none⟩) D.length D.length,.bool false,.int .i64 0,.int .i64 0] 146)).alloc (.cells (mkW D.length) 186)).alloc (.cells #[.slice (some ⟨w.heap.size+1+1,0,none⟩) D.length D.length,.int .i64 0] 150)).alloc (.cells (mkW D.length) 186)).alloc (.cells #[.slice (some ⟨w.heap.size+1+1+1+1,0,none⟩) D.length D.length,.int .i64 0] 150)) P o G cap ee D s fr:=by
 obtain⟨h0,h1,h2,h3,h4,h5,hb,hz⟩:=six_new w (.cells (mkI D.length) 3) (.cells #[.pointer (some ⟨P,o,none⟩),.string s,.int .i64 fr,.slice (some ⟨w.heap.size,0,none⟩) D.length D.length,.bool false,.int .i64 0,.int .i64 0] 146) (.cells (mkW D.length) 186) (.cells #[.slice (some ⟨w.heap.size+1+1,0,none⟩) D.length D.length,.int .i64 0] 150) (.cells (mkW D.length) 186) (.cells #[.slice (some ⟨w.heap.size+1+1+1+1,0,none⟩) D.length D.length,.int .i64 0] 150)
 generalize ((((((w.alloc (.cells (mkI D.length) 3)).alloc (.cells #[.pointer (some ⟨P,o,none⟩),.string s,.int .i64 fr,.slice (some ⟨w.heap.size,0,none⟩) D.length D.length,.bool false,.int .i64 0,.int .i64 0] 146)).alloc (.cells (mkW D.length) 186)).alloc (.cells #[.slice (some ⟨w.heap.size+1+1,0,none⟩) D.length D.length,.int .i64 0] 150)).alloc (.cells (mkW D.length) 186)).alloc (.cells #[.slice (some ⟨w.heap.size+1+1+1+1,0,none⟩) D.length D.length,.int .i64 0] 150))=W at h0 h1 h2 h3 h4 h5 hb hz ⊢
 have lP:P<w.heap.size:=World.block_lt_of_cell? w _ p1
 refine⟨⟨?_,?_,?_,?_,?_,?_,?_,frozen_row h1,frozen_row h1,frozen_row h1,frozen_row h1,by simp,fun i v hv=>?_,(hb.cell (by exact lP)).trans p0,(hb.cell (by exact lP)).trans p1,fun q st hq=>(hst q st hq).below hb hG⟩,⟨?_,?_,frozen_row h3,fun i x hx=>by simp at hx,fun i hi=>⟨⟨_,(cell_row h2).trans (mkW_get hi)⟩,frozen_row h2⟩⟩,⟨?_,?_,frozen_row h5,fun i x hx=>by simp at hx,fun i hi=>⟨⟨_,(cell_row h4).trans (mkW_get hi)⟩,frozen_row h4⟩⟩,hb,hz⟩
 all_goals first
  |exact(cell_row h1).trans rfl
  |exact(cell_row h3).trans rfl
  |exact(cell_row h5).trans rfl
  |skip
 have hi:i<D.length:=by have:=(List.getElem?_eq_some_iff.1 hv).1;simpa using this
 have hv0:v=0:=by rw[List.getElem?_replicate,if_pos hi]at hv;cases hv;rfl
 subst hv0
 exact⟨(cell_row h0).trans (mkI_get hi),frozen_row h0⟩
theorem find_in(P o G cap ee:Nat)(D:List Stp)(w:World)(s:ByteArray)(fr:Nat)(p0:w.cell? ⟨P,o,none⟩=some (.slice (some ⟨G,0,none⟩) D.length cap))(p1:w.cell? ⟨P,o+1,none⟩=some (.int .i64 ee))(p2:w.cell? ⟨P,o+2,none⟩=some (.int .i64 0))(hst:∀q st,D[q]?=some st->StepAt w G q st)(hG:G<w.heap.size)
  (hW:WfC D)(hD:D.length<=1000)(he:ee<D.length)(h0:D[0]?=some .done)(hu:∀q,D[q]?=some .done->q=0)(hs:s.size<=1000000000)(hf:fr<=s.size):
  Calls Tryz.prog 47 #[.pointer (some ⟨P,o,none⟩),.string s,.int .i64 fr] w fun e w'=>Below w.heap.size w w'/\∃(fd:Bool) (a b:Nat),e= .returned (.tuple #[.int .i64 a,.int .i64 b,.bool fd])/\Best s.data.toList.length (fun i j=>Run s.data.toList D ee i j) fr fd a b:=by
 have hf0:(0:Int)<=(fr:Int):=by omega
 have hf1:(fr:Int)<=(s.size:Int):=by omega
 have hDp:0<D.length:=by omega
 have hD0:((D.length:Int)==0)=false:=by
  rw[beq_eq_false_iff_ne]
  omega
 have hflt:decide ((fr:Int)<0)=false:=by simp
 have hfgN:decide (s.size<fr)=false:=by simp;omega
 have lP:P<w.heap.size:=World.block_lt_of_cell? w _ p1
 have n0:w.heap.size≠P:=by omega
 have n1:w.heap.size+1≠P:=by omega
 have n2:w.heap.size+1+1≠P:=by omega
 have n3:w.heap.size+1+1+1≠P:=by omega
 have n4:w.heap.size+1+1+1+1≠P:=by omega
 have n5:w.heap.size+1+1+1+1+1≠P:=by omega
 have hfgt:decide ((s.size:Int)<(fr:Int))=false:=by simp;omega
 have hmk1:=mk_ints D.length hD
 have hmk2:=mk_ways D.length hD
 have HW:=hd hW
 have Hst:=hd hst
 have H0:=hd h0
 have Hu:=hd hu
 clear hW hst h0 hu
 go_enter Tryz.func47,Tryz.ntmps47
 have Hbeg:=hd (find_beg (s:=s) (fr:=fr) p0 p1 Hst.out hG)
 go_upto_region 9 with fail
 generalize ((((((w.alloc (.cells (mkI D.length) 3)).alloc (.cells #[.pointer (some ⟨P,o,none⟩),.string s,.int .i64 fr,.slice (some ⟨w.heap.size,0,none⟩) D.length D.length,.bool false,.int .i64 0,.int .i64 0] 146)).alloc (.cells (mkW D.length) 186)).alloc (.cells #[.slice (some ⟨w.heap.size+1+1,0,none⟩) D.length D.length,.int .i64 0] 150)).alloc (.cells (mkW D.length) 186)).alloc (.cells #[.slice (some ⟨w.heap.size+1+1+1+1,0,none⟩) D.length D.length,.int .i64 0] 150))=W at Hbeg ⊢
 have Hbl:=hd Hbeg.out.bl
 have Hszw:Hid (w.heap.size+6<=W.heap.size):=hd (Nat.le_of_eq Hbeg.out.sz.symm)
 have HSh:=hd Hbeg.out.sh
 have HWa:=hd Hbeg.out.wa
 have HWb:=hd Hbeg.out.wb
 generalize hN:w.heap.size=N at Hbl Hszw HSh HWa HWb n0 n1 n2 n3 n4 n5 hG lP ⊢
 have HN:=hd hN
 clear hN Hbeg Hst p0 p1 hmk1 hmk2
 have p1:=HSh.out.p1
 simp only at p1
 have HApt:Hid (Apt ⟨N+1,N,P,o,G,cap,ee,s,D⟩):=hd ⟨by simp,by simp;omega,by simp;omega,by simp;omega,by simp;omega⟩
 have HA:Hid (Apw ⟨N+1,N,P,o,G,cap,ee,s,D⟩ (N+3) (N+2)):=hd ⟨HApt.out,by omega,by simp,by simp,by simp,by simp,by simp;omega,by simp;omega,by simp;omega,by simp;omega⟩
 have HB:Hid (Apw ⟨N+1,N,P,o,G,cap,ee,s,D⟩ (N+5) (N+4)):=hd ⟨HApt.out,by omega,by simp,by simp,by simp,by simp,by simp;omega,by simp;omega,by simp;omega,by simp;omega⟩
 have Hen:=hd (enter_any ⟨N+1,N,P,o,G,cap,ee,s,D⟩ (N+3) (N+2) fr fr HA.out HW.out hD (by omega) (by show fr<=s.size;omega) W ⟨List.replicate D.length 0,[],false,0,0⟩ ee he (fun q v hv=>by
  have hv':(List.replicate D.length 0)[q]?=some v:=hv
  rw[List.getElem?_replicate]at hv'
  split at hv'
  ·cases hv';omega
  ·cases hv') (Nat.zero_le _) HSh.out HWa.out)
 go_wp2_with fail
 refine Hen.out.mono ?_
 rintro e w1 ⟨rfl,s1,hE,hS1,hL1,hB1⟩
 have hP1:=plc_first (fun q v hv=>by
  have hv':(List.replicate D.length 0)[q]?=some v:=hv
  rw[List.getElem?_replicate]at hv'
  split at hv'
  ·cases hv';rfl
  ·cases hv') rfl rfl rfl rfl Hu.out H0.out hE
 obtain⟨hP1,hh1,hc1⟩:=hP1
 have hLb1:=HWb.out.bl hB1 (by simp) (by simp)
 have Hb1:Hid (Below N w w1):=hd (Hbl.out.trans (hB1.below (by simp) (by have:=Hszw.out;omega)))
 have HP1:=hd hP1
 have Hh1:=hd hh1
 have hc1':s1.li.length<=D.length:=by
  have h2:s1.sn.count (fr+1)<=s1.sn.length:=List.count_le_length
  rw[hS1.snl]at h2
  simp only at h2
  omega
 have hsz1:N+6<=w1.heap.size:=Nat.le_trans Hszw.out hB1.size
 clear hE hP1 hh1 hB1 hc1 p1
 go_wp2
 go_loopg [11,12] (s.size+1) (fun k nv lv wr=>∃(t A LA B LB:Nat) (X:List (Nat×Nat)) (x:Sx),nv= .pointer (some ⟨A,0,none⟩)/\lv= .pointer (some ⟨B,0,none⟩)/\((A=N+3/\LA=N+2/\B=N+5/\LB=N+4)\/(A=N+5/\LA=N+4/\B=N+3/\LB=N+2))/\Sh wr ⟨N+1,N,P,o,G,cap,ee,s,D⟩ t x.sn x.fd x.a x.b/\Ways wr A LA D.length x.li/\Ways wr B LB D.length X/\Hid (Plc s.data.toList D ee fr t x.li x.fd x.a x.b)/\Hid (∀(q v:Nat),x.sn[q]?=some v->v<=t+1)/\x.li.length<=D.length/\fr<=t/\t<=s.size/\s.size<t+k/\Hid (Below N w wr)/\N+6<=wr.heap.size)
 case atStart=>exact⟨fr,N+3,N+2,N+5,N+4,[],s1,rfl,rfl,.inl ⟨rfl,rfl,rfl,rfl⟩,hS1,hL1,hLb1,HP1,Hh1,hc1',Nat.le_refl _,hf,by omega,Hb1,hsz1⟩
 case round=>
  obtain⟨t,A,LA,B,LB,X,x,rfl,rfl,hsw,hS,hLA,hLB,HP,Hh,hxl,hft,hts,hgk,Hb,hsz⟩:=hrel
  have s2:=hS.s2
  have s4:=hS.s4
  have s5:=hS.s5
  have s6:=hS.s6
  have a1:=hLA.a1
  by_cases hlt1:t<s.size
  ·have hne:A≠LA/\A≠B/\A≠LB/\LA≠B/\LA≠LB:=by omega
   have HAw:Hid (Apw ⟨N+1,N,P,o,G,cap,ee,s,D⟩ A LA):=by rcases hsw with⟨rfl,rfl,rfl,rfl⟩|⟨rfl,rfl,rfl,rfl⟩;exact HA;exact HB
   have HBw:Hid (Apw ⟨N+1,N,P,o,G,cap,ee,s,D⟩ B LB):=by rcases hsw with⟨rfl,rfl,rfl,rfl⟩|⟨rfl,rfl,rfl,rfl⟩;exact HB;exact HA
   have hcg:=ch_get s t hlt1
   have Hpass:=hd (pass_any ⟨N+1,N,P,o,G,cap,ee,s,D⟩ A LA B LB fr t HAw.out HBw.out ⟨hne.2.1,hne.2.2.1,hne.2.2.2.1,hne.2.2.2.2⟩ HW.out hD hlt1 hs he H0.out Hu.out hft x.li X x.fd x.a x.b x.sn wr HP.out hxl Hh.out hS hLA hLB)
   have t0:(0:Int)<=(t:Int):=by omega
   have t1:(t:Int)<(s.size:Int):=by omega
   obtain⟨gf,rfl⟩:∃f,gk=f+1:=⟨gk-1,by omega⟩
   by_cases hnil:x.li= []
   ·have a1':wr.cell? ⟨A,1,none⟩=some (.int .i64 0):=by rw[hnil]at a1;exact a1
    have Hnil:=hd hnil
    clear a1 hnil
    cases hfd:x.fd
    ·rw[hfd]at s4
     go_wp2_with fail
     refine Hpass.out.mono ?_
     rintro e w4 ⟨rfl,x4,hP4,hh4,hl4,hS4,hLB4,hLA4,hB4⟩
     have Hb4:Hid (Below N w w4):=hd (Hb.out.trans (hB4.below (by simp;omega) (by omega)))
     have HP4:=hd hP4
     have Hh4:=hd hh4
     have hsz4:N+6<=w4.heap.size:=Nat.le_trans hsz hB4.size
     clear hP4 hh4 hB4 hS hLA hLB s2 s4 s5 s6 a1'
     go_wp2
     go_roundg gf
     case measure=>omega
     case rel=>exact⟨t+1,B,LB,A,LA,x.li,x4,rfl,rfl,by omega,hS4,hLB4,hLA4,HP4,Hh4,hl4,by omega,by omega,by omega,Hb4,hsz4⟩
    ·rw[hfd]at s4
     go_wp2
     go_quiet (fail)
     go_wp2
     go_ret3
     exact⟨HN.out▸below_drN Hb.out,true,x.a,x.b,rfl,hfd▸HP.out.best (by rw[len_data];omega) (.inr ⟨Hnil.out,hfd⟩) Hu.out H0.out⟩
   ·have hnI:(0:Int)<(x.li.length:Int):=by
     have:=List.length_pos_iff.2 hnil
     omega
    have hnb:decide ((0:Int)<(x.li.length:Int))=true:=by simp;exact List.length_pos_iff.2 hnil
    have hnz:0<x.li.length:=List.length_pos_iff.2 hnil
    cases hfd:x.fd
    ·rw[hfd]at s4
     go_wp2_with fail
     refine Hpass.out.mono ?_
     rintro e w4 ⟨rfl,x4,hP4,hh4,hl4,hS4,hLB4,hLA4,hB4⟩
     have Hb4:Hid (Below N w w4):=hd (Hb.out.trans (hB4.below (by simp;omega) (by omega)))
     have HP4:=hd hP4
     have Hh4:=hd hh4
     have hsz4:N+6<=w4.heap.size:=Nat.le_trans hsz hB4.size
     clear hP4 hh4 hB4 hS hLA hLB s2 s4 s5 s6 a1
     go_wp2
     go_roundg gf
     case measure=>omega
     case rel=>exact⟨t+1,B,LB,A,LA,x.li,x4,rfl,rfl,by omega,hS4,hLB4,hLA4,HP4,Hh4,hl4,by omega,by omega,by omega,Hb4,hsz4⟩
    ·rw[hfd]at s4
     go_wp2_with fail
     refine Hpass.out.mono ?_
     rintro e w4 ⟨rfl,x4,hP4,hh4,hl4,hS4,hLB4,hLA4,hB4⟩
     have Hb4:Hid (Below N w w4):=hd (Hb.out.trans (hB4.below (by simp;omega) (by omega)))
     have HP4:=hd hP4
     have Hh4:=hd hh4
     have hsz4:N+6<=w4.heap.size:=Nat.le_trans hsz hB4.size
     clear hP4 hh4 hB4 hS hLA hLB s2 s4 s5 s6 a1
     go_wp2
     go_roundg gf
     case measure=>omega
     case rel=>exact⟨t+1,B,LB,A,LA,x.li,x4,rfl,rfl,by omega,hS4,hLB4,hLA4,HP4,Hh4,hl4,by omega,by omega,by omega,Hb4,hsz4⟩
  ·have hte:t=s.size:=by omega
   have hnl:¬(t:Int)<(s.size:Int):=by omega
   have hnd:decide ((t:Int)<(s.size:Int))=false:=by simp;omega
   have hnN:decide (t<s.size)=false:=by simp;omega
   go_wp2
   go_quiet (fail)
   go_wp2
   go_ret3
   exact⟨HN.out▸below_drN Hb.out,x.fd,x.a,x.b,rfl,HP.out.best (by rw[len_data];omega) (.inl (by rw[len_data];exact hte)) Hu.out H0.out⟩
end Go.Proofs.YtldiemjlpnachaaGreatDoor
namespace Go.Proofs.YtldiemjlpnachaaGreatDoor
open Go.RowKit
theorem WfS.mono{n m:Nat}{st:Stp}(h:WfS n st)(hm:n<=m):WfS m st:=by
 cases st with
 |done=>trivial
 |one f k=>exact Nat.lt_of_lt_of_le h hm
 |beg k=>exact Nat.lt_of_lt_of_le h hm
 |fin k=>exact Nat.lt_of_lt_of_le h hm
 |fork k o=>exact⟨Nat.lt_of_lt_of_le h.1 hm,Nat.lt_of_lt_of_le h.2 hm⟩
theorem WfC.snoc{c:List Stp}{st:Stp}(h:WfC c)(hs:WfS (c.length+1) st):WfC (c++ [st]):=by
 intro q st' hq
 rw[List.length_append,List.length_singleton]
 rcases Nat.lt_or_ge q c.length with hl|hl
 ·rw[List.getElem?_append_left hl]at hq
  exact(h q st' hq).mono (by omega)
 ·rw[List.getElem?_append_right hl]at hq
  rcases Nat.eq_zero_or_pos (q-c.length)with h0|h0
  ·rw[h0]at hq;simp at hq;rw[<-hq];exact hs
  ·rw[List.getElem?_eq_none (by simp;omega)]at hq;cases hq
theorem WfC.set{c:List Stp}{st:Stp}{i:Nat}(h:WfC c)(hs:WfS c.length st):WfC (c.set i st):=by
 intro q st' hq
 rw[List.length_set]
 by_cases e:i=q
 ·subst e
  have hl:i<c.length:=by have:=(List.getElem?_eq_some_iff.1 hq).1;simpa using this
  rw[List.getElem?_set_self hl]at hq
  cases hq
  exact hs
 ·rw[List.getElem?_set_ne e]at hq
  exact h q st' hq
structure Wfr(c:List Stp)(r:List Stp×Nat):Prop where
 wf:WfC r.1
 en:r.2<r.1.length
 le:c.length<=r.1.length
 nd:∀q:Nat,c.length<=q->r.1[q]?≠some .done
def WfG(g:Nat->List Stp->List Stp×Nat):Prop:=∀n c,WfC c->n<c.length->Wfr c (g n c)
theorem wf_one(st:Nat->Stp)(hs:∀n m,n<m->WfS m (st n))(hd:∀n,st n≠.done):WfG (fun n c=>(c++ [st n],c.length)):=by
 intro n c hc hn
 refine⟨hc.snoc (hs n _ (by omega)),by simp,by simp,fun q hq h=>?_⟩
 rw[List.getElem?_append_right hq]at h
 rcases Nat.eq_zero_or_pos (q-c.length)with h0|h0
 ·rw[h0]at h;simp at h;exact hd n h
 ·rw[List.getElem?_eq_none (by simp;omega)]at h;cases h
theorem Wfr.then{c:List Stp}{r:List Stp×Nat}{g:Nat->List Stp->List Stp×Nat}(h:Wfr c r)(hg:WfG g)(hp:∀n c q,q<c.length->(g n c).1[q]?=c[q]?):Wfr c (g r.2 r.1):=by
 have k:=hg r.2 r.1 h.wf h.en
 refine⟨k.wf,k.en,Nat.le_trans h.le k.le,fun q hq hd=>?_⟩
 rcases Nat.lt_or_ge q r.1.length with hl|hl
 ·rw[hp _ _ _ hl]at hd;exact h.nd q hq hd
 ·exact k.nd q hl hd
theorem Wfr.fork{c:List Stp}{r:List Stp×Nat}{n:Nat}(h:Wfr c r)(hn:n<c.length):Wfr c (r.1++ [.fork r.2 n],r.1.length):=by
 have hle:=h.le
 have hen:=h.en
 refine⟨h.wf.snoc ⟨by omega,by omega⟩,by simp,by simp;omega,fun q hq hd=>?_⟩
 rcases Nat.lt_or_ge q r.1.length with hl|hl
 ·rw[List.getElem?_append_left hl]at hd;exact h.nd q hq hd
 ·rw[List.getElem?_append_right hl]at hd
  rcases Nat.eq_zero_or_pos (q-r.1.length)with h0|h0
  ·rw[h0]at hd;simp at hd
  ·rw[List.getElem?_eq_none (by simp;omega)]at hd;cases hd
theorem wf_nil{n:Nat}{c:List Stp}(hc:WfC c)(hn:n<c.length):Wfr c (c,n):=
 ⟨hc,hn,Nat.le_refl _,fun q hq h=>by rw[List.getElem?_eq_none hq]at h;cases h⟩
theorem wf_rep{g:Nat->List Stp->List Stp×Nat}(hg:WfG g)(hp:∀n c q,q<c.length->(g n c).1[q]?=c[q]?)(a b:Int):WfG (repC g a b):=by
 intro n c hc hn
 have hfk:∀t,Wfr c (forksC g n t n c):=by
  intro t
  induction t with
  |zero=>exact wf_nil hc hn
  |succ t ih=>rw[forksC];exact(ih.then hg hp).fork hn
 have hlp:Wfr c (loopC g n c):=by
  unfold loopC
  have k:=hg c.length (c++ [.fork 0 n]) (hc.snoc (st:= .fork 0 n) ⟨by omega,by omega⟩) (by simp)
  have kl:=k.le
  have ke:=k.en
  simp only[List.length_append,List.length_singleton]at kl
  refine⟨k.wf.set ⟨ke,by omega⟩,by simp;omega,by simp;omega,fun q hq hd=>?_⟩
  simp only at hd
  by_cases e:c.length=q
  ·subst e
   rw[List.getElem?_set_self (by omega)]at hd
   simp at hd
  ·rw[List.getElem?_set_ne e]at hd
   exact k.nd q (by simp;omega) hd
 have hcp:∀ {r:List Stp×Nat},Wfr c r->∀t,Wfr c (copiesC g t r.2 r.1):=by
  intro r hr t
  induction t with
  |zero=>exact hr
  |succ t ih=>rw[copiesC];exact ih.then hg hp
 unfold repC
 split
 ·exact hcp hlp _
 ·exact hcp (hfk _) _
mutual
theorem wf_item:∀x:Tr,WfG (fun n c=>itemC x n c)
 | .one f=>by intro n c;simp only[itemC];exact wf_one (fun n=> .one f n) (fun _ _ h=>h) (fun _ h=>by cases h) n c
 | .beg=>by intro n c;simp only[itemC];exact wf_one (fun n=> .beg n) (fun _ _ h=>h) (fun _ h=>by cases h) n c
 | .fin=>by intro n c;simp only[itemC];exact wf_one (fun n=> .fin n) (fun _ _ h=>h) (fun _ h=>by cases h) n c
 | .back _=>by intro n c hc hn;simp only[itemC];exact wf_nil hc hn
 | .grp _ r=>by intro n c;simp only[itemC];exact wf_row r n c
 | .rep a b x=>by
  intro n c
  simp only[itemC]
  split
  ·exact wf_item x n c
  ·exact wf_rep (wf_item x) (fun n c q hq=>(frag_item [] x n c).pre q hq) a b n c
theorem wf_row:∀r:List Tr,WfG (fun n c=>rowC r n c)
 | []=>by intro n c hc hn;simp only[rowC];exact wf_nil hc hn
 |x::r=>by intro n c hc hn;simp only[rowC];exact(wf_row r n c hc hn).then (wf_item x) (fun n c q hq=>(frag_item [] x n c).pre q hq)
end
theorem wf_build(r:List Tr):WfC (buildC r).1/\(buildC r).2<(buildC r).1.length/\(buildC r).1[0]?=some .done/\∀q:Nat,(buildC r).1[q]?=some .done->q=0:=by
 have h:=wf_row r 0 [.done] (fun q st hq=>by
  rcases Nat.eq_zero_or_pos q with h0|h0
  ·subst h0;simp at hq;rw[<-hq];trivial
  ·rw[List.getElem?_eq_none (by simp;omega)]at hq;cases hq) (by simp)
 refine⟨h.wf,h.en,((frag_row [] r 0 [.done]).pre 0 (by simp)).trans rfl,fun q hq=>?_⟩
 rcases Nat.eq_zero_or_pos q with h0|h0
 ·exact h0
 ·exact absurd hq (h.nd q (by simp;omega))
theorem CodeIn.steps{w0 w:World}{v:Value}{cs:List Stp}(h:CodeIn w0 w v (lft cs))(hn:0<cs.length):∃G cap,v= .slice (some ⟨G,0,none⟩) cs.length cap/\w0.heap.size<=G/\G<w.heap.size/\∀(q:Nat) (st:Stp),cs[q]?=some st->StepAt w G q st:=by
 obtain⟨⟨css,hown,hcs⟩,_⟩:=h
 rw[lft_len]at hown
 obtain⟨G,cap,rfl,hb,hl⟩:=hown.form (by omega)
 refine⟨G,cap,rfl,hb,hl,fun q st hq=>?_⟩
 have hql:q<cs.length:=(List.getElem?_eq_some_iff.1 hq).1
 have hqc:q<css.length:=by rw[hcs.1,lft_len];exact hql
 have hok:=hcs.2 q css[q] (skOf st,0) (List.getElem?_eq_getElem hqc) (by unfold lft;rw[List.getElem?_map,hq];rfl)
 generalize levs (((lft cs).map Prod.snd).take q)=fi at hok
 have cl:∀j v,j<14->(css[q])[j]?=some v->w.cell? ⟨G,q*14+j,none⟩=some v:=fun j v hj hv=>owns_cell hown _ v (by rw[flat_get 14 css q j css[q] hcs.lens (List.getElem?_eq_getElem hqc) hj];exact hv)
 cases st with
 |done=>
  have e:css[q]=stepCells 0 (fun _=>0) 0 0 0 0 fi:=hok
  exact cl 0 _ (by omega) (by rw[e];rfl)
 |one f n=>
  obtain⟨a,e,ha⟩:=hok
  refine⟨cl 0 _ (by omega) (by rw[e];rfl),cl 10 _ (by omega) (by rw[e];rfl),fun i hi=>⟨a i,?_,ha i hi⟩⟩
  have:=cl (1+i) (.int .u32 (a i)) (by omega) (by
   rw[e]
   rcases(show i=0\/i=1\/i=2\/i=3\/i=4\/i=5\/i=6\/i=7 by omega)with rfl|rfl|rfl|rfl|rfl|rfl|rfl|rfl<;>rfl)
  rw[show q*14+1+i=q*14+(1+i) by omega]
  exact this
 |beg n=>
  have e:css[q]=stepCells 2 (fun _=>0) 0 n 0 0 fi:=hok
  exact⟨cl 0 _ (by omega) (by rw[e];rfl),cl 10 _ (by omega) (by rw[e];rfl)⟩
 |fin n=>
  have e:css[q]=stepCells 3 (fun _=>0) 0 n 0 0 fi:=hok
  exact⟨cl 0 _ (by omega) (by rw[e];rfl),cl 10 _ (by omega) (by rw[e];rfl)⟩
 |fork n o=>
  have e:css[q]=stepCells 4 (fun _=>0) 0 n o 0 fi:=hok
  exact⟨cl 0 _ (by omega) (by rw[e];rfl),cl 10 _ (by omega) (by rw[e];rfl),cl 11 _ (by omega) (by rw[e];rfl)⟩
theorem pfind_any(w0 w:World)(g:Nat)(l:List UInt8)(s:ByteArray)(fr:Int)(hok:(parseT l).1=0)(hP:ProgIn w0 w g l)(hr:refT0 l= [])(hs:s.size<=1000000000):
  Calls Tryz.prog 27 #[.pointer (some ⟨g,0,none⟩),.string s,.int .i64 fr] w fun e w'=>FindPost w w' s.data.toList (fun i j=>MtRow s.data.toList ((itsT l).map (·.3)) i j) fr e:=by
 obtain⟨v,c1,c2,_,hcode⟩:=hP.code
 have hbk:=(refs_T hok).1
 have c3:=hP.c3
 have hle:=hP.le
 rw[hr]at hbk c2 hcode c3 hle
 rw[build_nil _ hbk]at c2 hcode hle
 simp only[List.length_nil,lft_len]at c3 hle c2 hcode
 obtain⟨hW,he,h0,hu⟩:=wf_build ((itsT l).map (·.3))
 obtain⟨G,cap,rfl,_,hG,hst⟩:=hcode.steps (by omega)
 have Hfind:Hid (Calls Tryz.prog 47 #[.pointer (some ⟨g,1,none⟩),.string s,.int .i64 fr] w fun e w'=>FindPost w w' s.data.toList (fun i j=>MtRow s.data.toList ((itsT l).map (·.3)) i j) fr e):=by
  refine hd ?_
  by_cases hf:0<=fr/\fr<=s.size
  ·obtain⟨f,rfl⟩:=Int.eq_ofNat_of_zero_le hf.1
   refine(find_in g 1 G cap _ _ w s f c1 c2 c3 hst hG hW (by omega) he h0 hu hs (by omega)).mono ?_
   rintro e w' ⟨hb,fd,a,b,rfl,hbest⟩
   refine⟨hb,fd,a,b,rfl,fun _=>?_,fun h=>?_⟩
   ·rw[Int.toNat_natCast]
    exact hbest.congr (fun i j=>build_ok s.data.toList _ i j)
   ·exact absurd ⟨hf.1,by rw[len_data];exact hf.2⟩ h
  ·refine(find_out g 1 w s fr _ _ _ c1 c3 hf).mono ?_
   rintro e w' ⟨rfl,hb⟩
   refine⟨hb,false,0,0,rfl,fun h=>?_,fun _=>⟨rfl,rfl,rfl⟩⟩
   exact absurd ⟨h.1,by have:=h.2;rw[len_data]at this;exact this⟩ hf
 clear hst hcode hW he h0 hu hP c1 c2 c3
 go_enter Tryz.func27,Tryz.ntmps27
 go_wp2_with fail
 refine Hfind.out.mono ?_
 rintro e w' ⟨hb,fd,a,b,rfl,h1,h2⟩
 have HF:Hid (FindPost w w' s.data.toList (fun i j=>MtRow s.data.toList ((itsT l).map (·.3)) i j) fr (.returned (.tuple #[.int .i64 a,.int .i64 b,.bool fd]))):=hd ⟨hb,fd,a,b,rfl,h1,h2⟩
 clear hb h1 h2
 go_wp2
 go_ret3
 exact HF.out
end Go.Proofs.YtldiemjlpnachaaGreatDoor
namespace Go.Proofs.YtldiemjlpnachaaGreatDoor
open Go.RowKit
def FindRes(n:Nat)(M:Nat->Nat->Prop)(fr:Int)(fd:Bool)(a b:Nat):Prop:=((0<=fr/\fr<=n)->Best n M fr.toNat fd a b)/\(¬(0<=fr/\fr<=n)->fd=false/\a=0/\b=0)
end Go.Proofs.YtldiemjlpnachaaGreatDoor
